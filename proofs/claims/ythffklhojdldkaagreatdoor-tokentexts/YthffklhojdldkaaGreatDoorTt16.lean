/- DERIVED. Plain mathematics and walks, laid together (16). -/
import Derived.Test.YthffklhojdldkaaGreatDoorTt15
namespace Go.Proofs.YthffklhojdldkaaGreatDoor
open Go.RowKit
theorem gpGo_fuel (s : ByteArray) : ∀ (f g i : Nat), s.size - i < f → s.size - i < g → gpGo s f i = gpGo s g i := by
  intro f
  induction f with
  | zero => intro g i h; omega
  | succ f ih =>
    intro g i h1 h2
    obtain ⟨g, rfl⟩ : ∃ k, g = k + 1 := ⟨g - 1, by omega⟩
    rw [gpGo, gpGo]
    by_cases hi : i < s.size
    · rw [if_pos hi, if_pos hi]
      by_cases hc : chr s i = 45 ∧ chr s (i + 1) = 45
      · rw [if_pos hc, if_pos hc]
        have h3 := (spN_next (P := lnB) (s := s) (i := i) (by decide) (by rw [hc.1]; rfl)).2
        have h4 := spN_ge lnB s (by decide) (i + 1)
        exact ih g _ (by omega) (by omega)
      · rw [if_neg hc, if_neg hc]
        by_cases hb : chr s i = 9 ∨ chr s i = 10 ∨ chr s i = 13 ∨ chr s i = 32
        · rw [if_pos hb, if_pos hb]
          exact ih g _ (by omega) (by omega)
        · rw [if_neg hb, if_neg hb]
    · rw [if_neg hi, if_neg hi]
theorem gapN_unf (s : ByteArray) (i : Nat) : gapN s i = if i < s.size then (if chr s i = 45 ∧ chr s (i + 1) = 45 then gapN s (spN lnB s i) else if chr s i = 9 ∨ chr s i = 10 ∨ chr s i = 13 ∨ chr s i = 32 then gapN s (i + 1) else i) else i := by
  show gpGo s (s.size + 1) i = _
  rw [gpGo]
  by_cases hi : i < s.size
  · rw [if_pos hi, if_pos hi]
    by_cases hc : chr s i = 45 ∧ chr s (i + 1) = 45
    · rw [if_pos hc, if_pos hc]
      have h3 := (spN_next (P := lnB) (s := s) (i := i) (by decide) (by rw [hc.1]; rfl)).2
      have h4 := spN_ge lnB s (by decide) (i + 1)
      exact gpGo_fuel s _ _ _ (by omega) (by omega)
    · rw [if_neg hc, if_neg hc]
      by_cases hb : chr s i = 9 ∨ chr s i = 10 ∨ chr s i = 13 ∨ chr s i = 32
      · rw [if_pos hb, if_pos hb]
        exact gpGo_fuel s _ _ _ (by omega) (by omega)
      · rw [if_neg hb, if_neg hb]
  · rw [if_neg hi, if_neg hi]
theorem blB_iff {c : Int} : blB c = true ↔ (c = 9 ∨ c = 10 ∨ c = 13 ∨ c = 32) := by
  unfold blB
  simp [Bool.or_eq_true, or_assoc]
theorem gapN_blanks (s : ByteArray) : ∀ (d i : Nat), s.size - i = d → gapN s (spN blB s i) = gapN s i := by
  intro d
  induction d with
  | zero =>
    intro i hi
    rw [spN_stop (by rw [chr_out (by omega)]; rfl)]
  | succ d ih =>
    intro i hi
    cases h : blB (chr s i) with
    | false => rw [spN_stop h]
    | true =>
      obtain ⟨h1, h2⟩ := spN_next (by decide) h
      have h3 := blB_iff.1 h
      rw [h2, ih (i + 1) (by omega), gapN_unf s i, if_pos h1, if_neg (by omega), if_pos h3]
/-- Behind the blanks: the end, a comment, or the place. -/
theorem gapN_end {s : ByteArray} {i : Nat} (h : spN blB s i = s.size) : gapN s i = s.size := by
  rw [← gapN_blanks s _ i rfl, h, gapN_unf, if_neg (by omega)]
theorem gapN_note {s : ByteArray} {i : Nat} (h : chr s (spN blB s i) = 45) (h2 : chr s (spN blB s i + 1) = 45) : gapN s i = gapN s (spN lnB s (spN blB s i)) ∧ spN blB s i < spN lnB s (spN blB s i) := by
  have h3 := spN_next (P := lnB) (s := s) (i := spN blB s i) (by decide) (by rw [h]; rfl)
  have h4 := spN_ge lnB s (by decide) (spN blB s i + 1)
  refine ⟨?_, by omega⟩
  rw [← gapN_blanks s _ i rfl, gapN_unf, if_pos h3.1, if_pos ⟨h, h2⟩]
theorem gapN_here {s : ByteArray} {i : Nat} (h : spN blB s i < s.size) (h2 : ¬ (chr s (spN blB s i) = 45 ∧ chr s (spN blB s i + 1) = 45)) : gapN s i = spN blB s i := by
  have hb : blB (chr s (spN blB s i)) = false := (spN_spec blB s (by decide) _ i rfl).2.2.1
  have h3 : ¬ (chr s (spN blB s i) = 9 ∨ chr s (spN blB s i) = 10 ∨ chr s (spN blB s i) = 13 ∨ chr s (spN blB s i) = 32) := fun q => by rw [blB_iff.2 q] at hb; cases hb
  rw [← gapN_blanks s _ i rfl, gapN_unf, if_pos h, if_neg h2, if_neg h3]
end Go.Proofs.YthffklhojdldkaaGreatDoor

namespace Go.Proofs.YthffklhojdldkaaGreatDoor
open Go.RowKit
/-- What Lex answers. -/
def LxP (w w' : World) (r : Sum (List Tk) (Nat × Int)) (e : Ending) : Prop := match r with
  | .inr q => e = .returned (.tuple #[.slice none 0 0, .agg #[.int .i64 q.1, .int .i64 q.2]])
  | .inl l => ∃ v, e = .returned (.tuple #[v, .agg #[.int .i64 0, .int .i64 0]]) ∧ w'.ownsRow w.heap.size 45 9 v l.length (tkc l)
/-- Between two tokens. -/
structure AtY (w W : World) (s : ByteArray) (v : Value) (out : List Tk) (i f : Nat) : Prop where
  b : Below w.heap.size w W
  x : FX W w.heap.size 0 0
  g : SG W
  o : W.ownsRow w.heap.size 45 9 v out.length (tkc out)
  hi : i ≤ s.size
  hf : s.size < f + gapN s i
  he : lexGo (oneP s) s f out (gapN s i) = lexR (oneP s) s
  hl : out.length ≤ i
theorem own_stF {W : World} {B n b : Nat} {v : Value} {xs : List Value} {p q : Int} (h : W.ownsRow B 45 9 v n xs) (hx : FX W b p q) (p' q' : Int) : (stF W b p' q').ownsRow B 45 9 v n xs := by
  refine ⟨h.1, ?_⟩
  rcases h.2 with hn | ⟨g, cap, cur, rfl, hB, hgg, rest⟩
  · exact .inl hn
  · refine .inr ⟨g, cap, cur, rfl, hB, ?_, rest⟩
    have hne : g ≠ b := by
      rintro rfl
      rw [hx.heap] at hgg
      injection hgg with h1
      injection h1 with h2 h3
      cases h3
    rw [stF_other p' q' hne]
    exact hgg
theorem own_ne {W : World} {B n b : Nat} {v : Value} {xs : List Value} {p q : Int} (h : W.ownsRow B 45 9 v n xs) (hx : FX W b p q) : v.ownBlock ≠ some b := by
  rcases h.2 with ⟨rfl, _⟩ | ⟨g, cap, cur, rfl, hB, hgg, rest⟩
  · intro q; cases q
  · intro q
    cases q
    rw [hx.heap] at hgg
    injection hgg with h1
    injection h1 with h2 h3
    cases h3
theorem FX.grown {W W' : World} {b : Nat} {p e : Int} {row : Option Nat} (h : FX W b p e) (hg : W.grownBy W' row) (hne : row ≠ some b) : FX W' b p e := ⟨(hg.block b h.lt (fun e => hne e.symm)).trans h.heap⟩
theorem stF_below {B : Nat} {w W : World} {b : Nat} (h : Below B w W) (hb : B ≤ b) (p q : Int) : Below B w (stF W b p q) := (h.setCell (p := ⟨b, 0, none⟩) hb _).setCell (p := ⟨b, 1, none⟩) hb _
theorem ret_lx {fn : Func} {R : Ending → World → Prop} {a : Act} {W : World} {b : Nat} {p e : Int} {v : Value} (hF : fn.results = #[.tmp 2, .cell 3 37]) (hd : a.defers = []) (h2 : a.tmps.getD 2 undef = v) (h3 : a.tmps.getD 3 undef = .pointer (some ⟨b, 0, none⟩)) (hT : FX W b p e) (hR : R (.returned (.tuple #[v, .agg #[.int .i64 p, .int .i64 e]])) W) : bodyPost Tryz.prog fn R .ret a W := by
  have c0 := hT.c0
  have c1 := hT.c1
  refine bodyPost_ret (v := .tuple #[v, .agg #[.int .i64 p, .int .i64 e]]) ?_ hd hR
  simp only [Array.getD_eq_getD_getElem?] at h2 h3
  simp [results, hF, go_sem, h2, h3, c0, c1]
set_option maxRecDepth 100000 in
set_option maxHeartbeats 8000000 in
theorem lexP_of (s : ByteArray) (hs : s.size ≤ 65536)
    (H2 : ∀ b t, b < s.size → oneP s b = .inl t → ∃ e : Nat, t.en = e ∧ b < e ∧ e ≤ s.size) (H3 : ∀ b q, oneP s b = .inr q → q.2 ≠ 0) (w : World) (hg : SG w) :
    Calls Tryz.prog 12 #[.string s] w fun e w' => LxP w w' (lexR (oneP s) s) e ∧ Below w.heap.size w w' := by
  have t1 : ¬ (65536 : Int) < (s.size : Int) := by omega
  obtain ⟨i0, hinf, hz0, hz1, hz2⟩ := info_parts Tryz.info36
  have HB : Hid (∀ k w, k ≤ s.size → Calls Tryz.prog 23 #[.string s, .int .i64 ((k : Nat) : Int)] w fun e w' => e = .returned (.int .i64 (spN blB s k)) ∧ w' = w) := fun k w hk => blanks_any s k (by omega) hk w
  have HLn : Hid (∀ k w, k ≤ s.size → Calls Tryz.prog 25 #[.string s, .int .i64 ((k : Nat) : Int)] w fun e w' => e = .returned (.int .i64 (spN lnB s k)) ∧ w' = w) := fun k w hk => lineEnd_any s k (by omega) hk w
  have HS : Hid (∀ k w, k ≤ s.size → Calls Tryz.prog 24 #[.string s, .int .i64 ((k : Nat) : Int), .string ⟨#[45, 45]⟩] w fun e w' => e = .returned (.bool (pfx s k [45, 45])) ∧ w' = w) := fun k w hk => stands_any s k ⟨#[45, 45]⟩ hk w
  have HO : Hid (∀ b w, b < s.size → SG w → Calls Tryz.prog 26 #[.string s, .int .i64 ((b : Nat) : Int)] w fun e w' => e = .returned (tokP (oneP s b)) ∧ Below w.heap.size w w') := fun b w hb g => readToken_any s b hs hb w g
  have HE := (show Hid ((∀ b t, b < s.size → oneP s b = .inl t → ∃ e : Nat, t.en = e ∧ b < e ∧ e ≤ s.size) ∧ ∀ b q, oneP s b = .inr q → q.2 ≠ 0) from ⟨H2, H3⟩)
  have HG0 := (show Hid (SG w) from hg)
  have H0 := (show Hid (AtY w (w.alloc (fxO 0 0)) s (.slice none 0 0) [] 0 (s.size + 1)) from
    ⟨below_box _ _, ⟨heap_alloc_new w _⟩, hg.later (below_box _ _), World.ownsRow_nil _ _ _ _, by omega, by have := (gapN_bd (s := s) (i := 0) (by omega)).1; omega, by unfold lexR; rw [if_neg (by omega)], Nat.le_refl _⟩)
  clear H2 H3 hg
  go_enter Tryz.func12, Tryz.ntmps12
  go_wp2_with fail
  refine wp_scope_again 2 0 (fun a' W => ∃ (out : List Tk) (i f : Nat) (v u6 u7 u8 u9 u10 u11 u12 u13 u14 u15 u16 u17 u18 u19 u20 u21 u22 u23 u24 u25 u26 u27 u28 u29 u30 u31 u32 u33 u34 u35 u36 u37 u38 u39 u40 u41 u42 u43 u44 : Value), a' = { tmps := #[.string s, undef, .slice none 0 0, .pointer (some ⟨w.heap.size, 0, none⟩), v, .int .i64 i, u6, u7, u8, u9, u10, u11, u12, u13, u14, u15, u16, u17, u18, u19, u20, u21, u22, u23, u24, u25, u26, u27, u28, u29, u30, u31, u32, u33, u34, u35, u36, u37, u38, u39, u40, u41, u42, u43, u44], defers := [] } ∧ Hid (AtY w W s v out i f)) (fun a' _ => s.size - (intOf (a'.tmps.getD 5 undef)).toNat) rfl ?_ ?_
  case refine_2 =>
    rintro a' W ⟨out, i, f, v, u6, u7, u8, u9, u10, u11, u12, u13, u14, u15, u16, u17, u18, u19, u20, u21, u22, u23, u24, u25, u26, u27, u28, u29, u30, u31, u32, u33, u34, u35, u36, u37, u38, u39, u40, u41, u42, u43, u44, rfl, HW⟩
    clear H0
    have hi := HW.out.hi
    have hf := HW.out.hf
    have hol := HW.out.hl
    have hge := spN_ge blB s (by decide) i
    have hle := spN_le blB s (by decide) i hi
    have HBi := (show Hid _ from fun w => HB.out i w hi)
    have HSi := (show Hid _ from fun w => HS.out (spN blB s i) w hle)
    have HLi := (show Hid _ from fun w => HLn.out (spN blB s i) w hle)
    have HGe := (show Hid (spN blB s i = s.size → gapN s i = s.size) from fun h => gapN_end h)
    have HGn := (show Hid (chr s (spN blB s i) = 45 → chr s (spN blB s i + 1) = 45 → gapN s i = gapN s (spN lnB s (spN blB s i)) ∧ spN blB s i < spN lnB s (spN blB s i)) from fun a b => gapN_note a b)
    have HGh := (show Hid (spN blB s i < s.size → ¬ (chr s (spN blB s i) = 45 ∧ chr s (spN blB s i + 1) = 45) → gapN s i = spN blB s i) from fun a b => gapN_here a b)
    have hle2 := spN_le lnB s (by decide) (spN blB s i) hle
    generalize hp : spN blB s i = p at *
    clear HB HS HLn hp
    by_cases hend : p = s.size
    · have HV : Hid (lexR (oneP s) s = .inl out) := by
        show lexR (oneP s) s = _
        rw [← HW.out.he, HGe.out hend]
        obtain ⟨f, rfl⟩ : ∃ g, f = g + 1 := ⟨f - 1, by have := HGe.out hend; omega⟩
        rw [lexGo, if_neg (by omega)]
      have v1 : ((p : Int) == (s.size : Int)) = true := by rw [hend]; exact beq_self_eq_true _
      have f0 := HW.out.x.f0
      have f1' := HW.out.x.f1
      have c0 := HW.out.x.c0
      have c1 := HW.out.x.c1
      clear HSi HLi HGe HGn HGh HO HE hend
      go_wp2_with fail
      refine (HBi.out _).mono ?_
      rintro e W ⟨rfl, rfl⟩
      clear HBi
      go_wp2_with fail
      refine ret_lx rfl rfl rfl rfl (stF_fx HW.out.x 0 0) ⟨?_, stF_below HW.out.b (Nat.le_refl _) 0 0⟩
      rw [HV.out]
      exact ⟨v, rfl, own_stF HW.out.o HW.out.x 0 0⟩
    have v1 : ((p : Int) == (s.size : Int)) = false := by rw [beq_eq_false_iff_ne]; omega
    have hplt : p < s.size := by omega
    by_cases hn : chr s p = 45 ∧ chr s (p + 1) = 45
    · obtain ⟨hg1, hg2⟩ := HGn.out hn.1 hn.2
      have hpf : pfx s p [45, 45] = true := by
        show (chr s p == 45 && (chr s (p + 1) == 45 && true)) = true
        rw [hn.1, hn.2]; rfl
      rw [hpf] at HSi
      generalize spN lnB s p = q at *
      have HW2 := (show Hid (AtY w W s v out q f) from ⟨HW.out.b, HW.out.x, HW.out.g, HW.out.o, hle2, by have := HW.out.hf; rw [hg1] at this; exact this, by rw [← hg1]; exact HW.out.he, by have := HW.out.hl; omega⟩)
      clear HGe HGn HGh HO HE hend hn hg1 hpf HW
      go_wp2_with fail
      refine (HBi.out _).mono ?_
      rintro e W ⟨rfl, rfl⟩
      clear HBi
      go_wp2_with fail
      refine (HSi.out _).mono ?_
      rintro e W ⟨rfl, rfl⟩
      clear HSi
      go_wp2_with fail
      go_step3
      simp (config := { zetaDelta := true }) only [then_goto, inBlock_goto]
      refine Kj_on rfl ?_
      go_wp2_with fail
      refine (HLi.out _).mono ?_
      rintro e W ⟨rfl, rfl⟩
      clear HLi
      go_wp2_with fail
      go_step3
      simp (config := { zetaDelta := true }) only [then_goto]
      refine Kj_back ⟨⟨out, q, f, v, _, _, _, _, _, _, _, _, _, _, _, _, _, _, _, _, _, _, _, _, _, _, _, _, _, _, _, _, _, _, _, _, _, _, _, _, _, _, _, rfl, HW2⟩, ?_⟩
      simp [intOf]
      omega
    · have hg1 := HGh.out hplt hn
      have hpf : pfx s p [45, 45] = false := by
        show (chr s p == 45 && (chr s (p + 1) == 45 && true)) = false
        by_cases h1 : chr s p = 45
        · have h2 : ¬ chr s (p + 1) = 45 := fun q => hn ⟨h1, q⟩
          rw [beq_eq_false_iff_ne.2 h2]; simp
        · rw [beq_eq_false_iff_ne.2 h1]; rfl
      rw [hpf] at HSi
      have HOp := (show Hid (∀ w, SG w → Calls Tryz.prog 26 #[.string s, .int .i64 ((p : Nat) : Int)] w fun e w' => e = .returned (tokP (oneP s p)) ∧ Below w.heap.size w w') from fun w g => HO.out p w hplt g)
      obtain ⟨f, rfl⟩ : ∃ g, f = g + 1 := ⟨f - 1, by omega⟩
      have HU : Hid (lexR (oneP s) s = match oneP s p with
        | .inr q => .inr q
        | .inl t => lexGo (oneP s) s f (out ++ [t]) (gapN s t.en.toNat)) := by show lexR (oneP s) s = _; rw [← HW.out.he, lexGo, hg1, if_pos hplt]; cases oneP s p <;> rfl
      cases ho : oneP s p with
      | inr q =>
        have hne := HE.out.2 p q ho
        have HV : Hid (lexR (oneP s) s = .inr q) := by show lexR (oneP s) s = _; rw [HU.out, ho]
        rw [ho] at HOp
        have t3 : (q.2 != 0) = true := by rw [bne, beq_eq_false_iff_ne.2 hne]; rfl
        clear HGe HGn HGh HO HE hend hn hg1 hpf HLi HU ho hne
        go_wp2_with fail
        refine (HBi.out _).mono ?_
        rintro e W ⟨rfl, rfl⟩
        clear HBi
        go_wp2_with fail
        refine (HSi.out _).mono ?_
        rintro e W ⟨rfl, rfl⟩
        clear HSi
        go_wp2_with fail
        go_step3
        simp (config := { zetaDelta := true }) only [then_goto, inBlock_goto]
        refine Kj_on rfl ?_
        go_wp2_with fail
        refine (HOp.out _ HW.out.g).mono ?_
        rintro e w3 ⟨rfl, b3⟩
        have HB5 := (show Hid (Below w.heap.size w ((w3.alloc (tkO tk0)).alloc (fxO q.1 q.2)) ∧ FX ((w3.alloc (tkO tk0)).alloc (fxO q.1 q.2)) w.heap.size 0 0 ∧ FX ((w3.alloc (tkO tk0)).alloc (fxO q.1 q.2)) (w3.heap.size + 1) q.1 q.2) from
          ⟨(((HW.out.b.trans (b3.mono HW.out.b.size)).alloc (Nat.le_trans HW.out.b.size b3.size) _).alloc (by rw [World.size_alloc]; have := HW.out.b.size; have := b3.size; omega) _), ((HW.out.x.below b3).below (below_box _ _)).below (below_box _ _), ⟨by
            have h := heap_alloc_new (w3.alloc (tkO tk0)) (fxO q.1 q.2)
            rw [World.size_alloc] at h
            exact h⟩⟩)
        have hlt3 := (HW.out.x.below b3).lt
        have ne1 : ¬ w3.heap.size + 1 = w.heap.size := by omega
        have ne2 : ¬ w.heap.size = w3.heap.size + 1 := by omega
        clear b3 HW HOp
        unfold tokP pairV
        go_wp2_with fail
        generalize (w3.alloc (tkO tk0)).alloc (fxO q.1 q.2) = w5 at *
        have f0 := HB5.out.2.1.f0
        have f1' := HB5.out.2.1.f1
        have c0 := HB5.out.2.1.c0
        have c1 := HB5.out.2.1.c1
        have k0 := HB5.out.2.2.c0
        have k1 := HB5.out.2.2.c1
        go_region
        all_goals
          go_wp2_with fail
          simp only [Kj_ret]
          refine ret_lx rfl rfl rfl rfl ((stF_fx HB5.out.2.1 q.1 q.2).below (Below.refl _ _).drew) ⟨?_, (stF_below HB5.out.1 (Nat.le_refl _) q.1 q.2).drew⟩
          rw [HV.out]
          exact rfl
      | inl t =>
        obtain ⟨en, he1, he2, he3⟩ := HE.out.1 p t hplt ho
        have HV : Hid (lexGo (oneP s) s f (out ++ [t]) (gapN s en) = lexR (oneP s) s) := by show _ = lexR (oneP s) s; rw [HU.out, ho]; show _ = lexGo (oneP s) s f (out ++ [t]) (gapN s t.en.toNat); rw [he1]; rfl
        have hgb := gapN_bd he3
        have HEn := (show Hid (t.en = (en : Int)) from he1)
        clear he1
        rw [ho] at HOp
        clear HGe HGn HGh HO HE hend hn hpf HLi HU ho
        go_wp2_with fail
        refine (HBi.out _).mono ?_
        rintro e W ⟨rfl, rfl⟩
        clear HBi
        go_wp2_with fail
        refine (HSi.out _).mono ?_
        rintro e W ⟨rfl, rfl⟩
        clear HSi
        go_wp2_with fail
        go_step3
        simp (config := { zetaDelta := true }) only [then_goto, inBlock_goto]
        refine Kj_on rfl ?_
        go_wp2_with fail
        refine (HOp.out _ HW.out.g).mono ?_
        rintro e w3 ⟨rfl, b3⟩
        have hO : w3.ownsRow w.heap.size 45 9 v out.length (tkc out) := ownB HW.out.o b3
        have HB3 := (show Hid (Below w.heap.size w w3 ∧ FX w3 w.heap.size 0 0 ∧ SG w3) from ⟨HW.out.b.trans (b3.mono HW.out.b.size), HW.out.x.below b3, HW.out.g.later b3⟩)
        have hs3 := HB3.out.1.size
        have HX := (show Hid (TX ((w3.alloc (tkO t)).alloc (fxO 0 0)) w3.heap.size t) from (TX.new w3 t).below (below_box _ _))
        clear b3 HOp HW
        unfold tokP pairV
        obtain ⟨c0, c1, c2, c3, c4, c5, c6, c7, c8⟩ := HX.out.cells
        go_wp2_with (at_builtin; refine wpList_append_lies _ rfl _ _ 22 rfl w.heap.size 45 i0 (tkG tk0) 9 80 Tryz.underlying22 hinf hz0 hz1 hz2 rfl (by decide) _ _ _ rfl (((hO.alloc _).alloc _).alloc _) ⟨w3.heap.size + 1 + 1, 0, none⟩ 1 1 (tkV t) rfl rfl ?c1 (tk_one _) (by decide) ?c3 ?c4 ?c5 (w3.heap.size + 1 + 1 + 1) (by simp) ?_)
        case c1 =>
          have hh := heap_alloc_new ((w3.alloc (tkO t)).alloc (fxO 0 0)) (.cells (tkC t) 45)
          rw [World.size_alloc, World.size_alloc] at hh
          exact World.news_of_block (cs := tkC t) (t := 45) (fr := (0, 0)) hh
        case c3 => unfold maxLen; omega
        case c4 => omega
        case c5 => first | omega | (simp; omega)
        intro g3 cap w4 hown hgrow hat _
        have hgo : ∀ k, v.ownBlock = some k → w.heap.size ≤ k ∧ k < w3.heap.size := fun k e => hO.lt k e
        have hne4 := own_ne hO HB3.out.2.1
        have HX4 := (show Hid (TX w4 w3.heap.size t) from (HX.out.below (below_box _ _)).grown hgrow (fun e => by have := (hgo _ e).2; omega))
        have hb4 : Below w.heap.size w w4 := (((HB3.out.1.alloc hs3 _).alloc (by rw [World.size_alloc]; omega) _).alloc (by rw [World.size_alloc, World.size_alloc]; omega) _).grown hgrow (by rw [World.size_alloc, World.size_alloc, World.size_alloc]; omega) (fun k e => (hgo k e).1)
        have HW4 := (show Hid (AtY w w4 s (.slice (some ⟨g3, 0, none⟩) (out.length + 1) cap) (out ++ [t]) en f) from by
          refine ⟨hb4, (((HB3.out.2.1.below (below_box _ _)).below (below_box _ _)).below (below_box _ _)).grown hgrow hne4, HG0.out.below hb4 HG0.out.lt, ?_, he3, by rw [hg1] at hf; omega, HV.out, by rw [List.length_append, List.length_singleton]; omega⟩
          rw [List.length_append, List.length_singleton, tkc_append, tkc_one]
          exact hown)
        have e3 := HX4.out.cells.c3
        rw [HEn.out] at e3
        clear hown hgrow hat hgo hO HB3 HX HV c0 c1 c2 c3 c4 c5 c6 c7 c8 hne4 hb4 HX4
        go_wp2_with fail
        go_step3
        simp (config := { zetaDelta := true }) only []
        refine Kj_back ⟨⟨out ++ [t], en, f, _, _, _, _, _, _, _, _, _, _, _, _, _, _, _, _, _, _, _, _, _, _, _, _, _, _, _, _, _, _, _, _, _, _, _, _, _, _, _, _, rfl, HW4⟩, ?_⟩
        simp [intOf]
        omega
  case refine_1 =>
    intro hpass
    have HPs := (show Hid _ from hpass)
    clear hpass
    go_wp2_with fail
    go_step3
    rename_i hK
    refine hK _ _ ?_
    refine HPs.out _ _ ?_
    exact ⟨[], 0, s.size + 1, .slice none 0 0, _, _, _, _, _, _, _, _, _, _, _, _, _, _, _, _, _, _, _, _, _, _, _, _, _, _, _, _, _, _, _, _, _, _, _, _, _, _, _, rfl, H0⟩
set_option maxRecDepth 100000 in
set_option maxHeartbeats 8000000 in
theorem lexP_long (s : ByteArray) (hs : 65536 < s.size) (w : World) : Calls Tryz.prog 12 #[.string s] w fun e w' => LxP w w' (lexR (oneP s) s) e ∧ Below w.heap.size w w' := by
  have t1 : (65536 : Int) < (s.size : Int) := by omega
  have HE : Hid (lexR (oneP s) s = .inr (0, 2)) := by show lexR (oneP s) s = _; unfold lexR; rw [if_pos hs]
  go_enter Tryz.func12, Tryz.ntmps12
  go_wp2_with fail
  refine wp_scope_forth 1 0 rfl ?_
  go_wp2_with fail
  simp only [Kj_ret]
  refine ret_lx (b := w.heap.size) (p := 0) (e := 2) rfl rfl rfl rfl ⟨heap_alloc_new w _⟩ ⟨?_, below_box _ _⟩
  rw [HE.out]
  exact rfl
end Go.Proofs.YthffklhojdldkaaGreatDoor

namespace Go.Proofs.YthffklhojdldkaaGreatDoor
open Go.RowKit
theorem litGo_en (s : ByteArray) (q : Int) (b : Nat) (hq : 0 ≤ q) : ∀ (f : Nat) (out : List Int) (i : Nat) (t : Tk), litGo s q b f out i = .inl t → ∃ e : Nat, t.en = e ∧ i < e ∧ e ≤ s.size := by
  intro f
  induction f with
  | zero => intro out i t h; rw [litGo] at h; cases h
  | succ f ih =>
    intro out i t h
    rw [litGo] at h
    split at h
    · cases h
    next h0 =>
    split at h
    next h1 =>
      split at h
      · cases h
      · cases h
        have := chr_lt (s := s) (i := i) (by omega)
        exact ⟨i + 1, rfl, by omega, by omega⟩
    split at h
    · cases h
    split at h
    · obtain ⟨e, h1, h2, h3⟩ := ih _ _ _ h
      exact ⟨e, h1, by omega, h3⟩
    · split at h
      · cases h
      · next c n he =>
        have h4 := escT_lt he
        obtain ⟨e, h1, h2, h3⟩ := ih _ _ _ h
        exact ⟨e, h1, by omega, h3⟩
theorem litGo_ne (s : ByteArray) (q : Int) (b : Nat) : ∀ (f : Nat) (out : List Int) (i : Nat) (p : Nat × Int), litGo s q b f out i = .inr p → p.2 ≠ 0 := by
  intro f
  induction f with
  | zero => intro out i p h; rw [litGo] at h; cases h; simp
  | succ f ih =>
    intro out i p h
    rw [litGo] at h
    split at h
    · cases h; simp
    split at h
    · split at h
      · cases h; simp
      · cases h
    split at h
    · cases h; simp
    split at h
    · exact ih _ _ _ h
    · split at h
      · cases h; simp
      · exact ih _ _ _ h
theorem numR_en {s : ByteArray} {d : Nat} {m n : Int} (h : numR s d m = .inl n) : d < spN dgB s d := by
  unfold numR at h
  split at h
  · cases h
  · omega
theorem nmR_en {s : ByteArray} {b d : Nat} {k : Int} {t : Tk} (hd : d ≤ s.size) (h : nmR s b d k = .inl t) : ∃ e : Nat, t.en = e ∧ d < e ∧ e ≤ s.size := by
  unfold nmR at h
  cases hn : numR s d (gtK k) with
  | inr e => rw [hn] at h; cases h
  | inl n =>
    rw [hn] at h
    cases h
    exact ⟨_, rfl, numR_en hn, spN_le dgB s (by decide) d hd⟩
theorem numR_no {s : ByteArray} {d : Nat} {m e : Int} (h : numR s d m = .inr e) : e ≠ 0 := by
  unfold numR at h
  split at h
  · cases h; simp
  · split at h
    · cases h; simp
    · cases h
theorem nmR_no {s : ByteArray} {b d : Nat} {k : Int} {q : Nat × Int} (h : nmR s b d k = .inr q) : q.2 ≠ 0 := by
  unfold nmR at h
  cases hn : numR s d (gtK k) with
  | inr e => rw [hn] at h; cases h; exact numR_no hn
  | inl n => rw [hn] at h; cases h
theorem nameR_no {s : ByteArray} {b : Nat} {q : Nat × Int} (h : nameR s b = .inr q) : q.2 ≠ 0 := by
  unfold nameR at h
  split at h
  · cases h; simp
  · cases h
theorem grpP_no {s : ByteArray} {b d : Nat} {q : Nat × Int} (h : grpP s b d = .inr q) : q.2 ≠ 0 := by
  unfold grpP at h
  split at h
  · split at h
    · cases h; simp
    · split at h <;> cases h
  · cases h
theorem grpP_en {s : ByteArray} {b d : Nat} {t : Tk} (hd : d ≤ s.size) (h : grpP s b d = .inl t) : ∃ e : Nat, t.en = e ∧ d ≤ e ∧ e ≤ s.size := by
  unfold grpP at h
  split at h
  · split at h
    · cases h
    · split at h
      · next hc =>
        cases h
        have h1 := spN_ge nmB s (by decide) d
        have h2 := chr_lt (s := s) (i := spN nmB s d) (by omega)
        exact ⟨_, rfl, by omega, by omega⟩
      · cases h; exact ⟨d, rfl, Nat.le_refl _, hd⟩
  · cases h; exact ⟨d, rfl, Nat.le_refl _, hd⟩
theorem sgGo_pos (s : ByteArray) (i : Nat) : ∀ l : List (Int × List UInt8), (∀ p ∈ l, p.1 ≠ 0 ∧ 1 ≤ p.2.length) → (sgGo s i l).1 = 0 ∨ 1 ≤ (sgGo s i l).2.length := by
  intro l
  induction l with
  | nil => intro _; exact .inl rfl
  | cons p l ih =>
    intro h
    rw [sgGo]
    split
    · exact .inr (h p (List.mem_cons_self ..)).2
    · exact ih (fun q hq => h q (List.mem_cons_of_mem _ hq))
theorem sgAt_pos (s : ByteArray) (i : Nat) : (sgAt s i).1 = 0 ∨ 1 ≤ (sgAt s i).2.length := sgGo_pos s i sgTab (by decide)
theorem sigP_en {s : ByteArray} {b : Nat} {t : Tk} (hb : b ≤ s.size) (h : sigP s b = .inl t) : ∃ e : Nat, t.en = e ∧ b < e ∧ e ≤ s.size := by
  have h1 := sgAt_len s b hb
  have h2 := sgAt_pos s b
  unfold sigP at h
  split at h
  · cases h
  next h0 =>
  have h3 : 1 ≤ (sgAt s b).2.length := by rcases h2 with q | q; exact absurd q h0; exact q
  split at h
  · obtain ⟨e, a1, a2, a3⟩ := nmR_en h1 h
    exact ⟨e, a1, by omega, a3⟩
  split at h
  · obtain ⟨e, a1, a2, a3⟩ := grpP_en h1 h
    exact ⟨e, a1, by omega, a3⟩
  · cases h
    exact ⟨_, rfl, by omega, h1⟩
theorem sigP_no {s : ByteArray} {b : Nat} {q : Nat × Int} (h : sigP s b = .inr q) : q.2 ≠ 0 := by
  unfold sigP at h
  split at h
  · cases h; simp
  split at h
  · exact nmR_no h
  split at h
  · exact grpP_no h
  · cases h
theorem ptsP_en {s : ByteArray} {b : Nat} {t : Tk} (hb : b + 3 ≤ s.size) (h : ptsP s b = .inl t) : ∃ e : Nat, t.en = e ∧ b < e ∧ e ≤ s.size := by
  have h1 := ptP_le hb
  unfold ptsP at h
  split at h
  · cases h
  split at h
  · next h45 =>
    have h2 := chr_lt (s := s) (i := (ptP s (b + 3)).2.1) (by omega)
    have h3 := ptP_le (s := s) (a := (ptP s (b + 3)).2.1 + 1) (by omega)
    split at h
    · cases h
    split at h
    · next hc =>
      cases h
      have h4 := chr_lt (s := s) (i := (ptP s ((ptP s (b + 3)).2.1 + 1)).2.1) (by omega)
      exact ⟨_, rfl, by omega, by omega⟩
    · cases h
  · split at h
    · next hc =>
      cases h
      have h4 := chr_lt (s := s) (i := (ptP s (b + 3)).2.1) (by omega)
      exact ⟨_, rfl, by omega, by omega⟩
    · cases h
theorem ptsP_no {s : ByteArray} {b : Nat} {q : Nat × Int} (h : ptsP s b = .inr q) : q.2 ≠ 0 := by
  unfold ptsP at h
  split at h
  · cases h; simp
  split at h
  · split at h
    · cases h; simp
    split at h
    · cases h
    · cases h; simp
  · split at h
    · cases h
    · cases h; simp
theorem pctP_en {s : ByteArray} {b : Nat} {t : Tk} (hb : b ≤ s.size) (h : pctP s b = .inl t) : ∃ e : Nat, t.en = e ∧ b < e ∧ e ≤ s.size := by
  unfold pctP at h
  split at h
  · next hp => exact ptsP_en (pfx_len hb hp) h
  split at h
  · exact sigP_en hb h
  split at h
  · next hc => cases h; exact ⟨_, rfl, by omega, by omega⟩
  · cases h
theorem pctP_no {s : ByteArray} {b : Nat} {q : Nat × Int} (h : pctP s b = .inr q) : q.2 ≠ 0 := by
  unfold pctP at h
  split at h
  · exact ptsP_no h
  split at h
  · exact sigP_no h
  split at h
  · cases h
  · cases h; simp
theorem oneP_no (s : ByteArray) (b : Nat) (q : Nat × Int) (h : oneP s b = .inr q) : q.2 ≠ 0 := by
  unfold oneP at h
  split at h
  · exact nameR_no h
  split at h
  · exact nmR_no h
  split at h
  · exact litGo_ne _ _ _ _ _ _ _ h
  split at h
  · unfold clT at h
    cases hr : rdRead s b with
    | inl p => rw [hr] at h; cases h
    | inr p =>
      obtain ⟨a, c⟩ := p
      rw [hr] at h
      have hne := rdRead_ne hr
      dsimp only at h
      split at h
      · cases h; simp
      · cases h; exact hne
  split at h
  · exact pctP_no h
  · exact sigP_no h
theorem rdRead_gt {s : ByteArray} {i : Nat} {x : BitVec 256} {n : Nat} (h : rdRead s i = .inl (x, n)) : i < n := by
  unfold rdRead at h
  split at h
  · simp at h
  · split at h
    · split at h
      · cases hm : rdMembers s (s.size + 1) 0#256 ((i : Int).toNat + 2) with
        | inr pq =>
          obtain ⟨a', c'⟩ := pq
          rw [hm] at h; simp [rdTurn] at h
        | inl p => obtain ⟨y, m⟩ := p; have b := rdMembers_ok hm; rw [hm] at h; simp only [rdTurn, Sum.inl.injEq, Prod.mk.injEq] at h; omega
      · cases hm : rdMembers s (s.size + 1) 0#256 ((i : Int).toNat + 1) with
        | inr pq =>
          obtain ⟨a', c'⟩ := pq
          rw [hm] at h; simp [rdEnd] at h
        | inl p => obtain ⟨y, m⟩ := p; have b := rdMembers_ok hm; rw [hm] at h; simp only [rdEnd, Sum.inl.injEq, Prod.mk.injEq] at h; omega
    · simp at h
theorem oneP_en (s : ByteArray) (b : Nat) (t : Tk) (hb : b < s.size) (h : oneP s b = .inl t) : ∃ e : Nat, t.en = e ∧ b < e ∧ e ≤ s.size := by
  unfold oneP at h
  split at h
  · next hh =>
    unfold nameR at h
    split at h
    · cases h
    · cases h
      have h1 := (spN_next (P := nmB) (s := s) (i := b) (by decide) (by unfold nmB; rw [hh]; rfl)).2
      have h2 := spN_ge nmB s (by decide) (b + 1)
      exact ⟨_, rfl, by omega, spN_le nmB s (by decide) b (by omega)⟩
  split at h
  · exact nmR_en (by omega) h
  split at h
  · next hq =>
    obtain ⟨e, a1, a2, a3⟩ := litGo_en s _ b (by omega) _ _ _ _ h
    exact ⟨e, a1, by omega, a3⟩
  split at h
  · cases hr : rdRead s b with
    | inr p =>
      rw [hr, clT] at h
      split at h <;> cases h
    | inl p =>
      obtain ⟨x, n⟩ := p
      rw [hr] at h
      cases h
      exact ⟨n, rfl, rdRead_gt hr, rdRead_ok hr⟩
  split at h
  · exact pctP_en (by omega) h
  · exact sigP_en (by omega) h
end Go.Proofs.YthffklhojdldkaaGreatDoor

namespace Go.Proofs.YthffklhojdldkaaGreatDoor
open Go.RowKit
theorem lexP_any (s : ByteArray) (w : World) (hg : SG w) : Calls Tryz.prog 12 #[.string s] w fun e w' => LxP w w' (lexR (oneP s) s) e ∧ Below w.heap.size w w' := by
  by_cases hs : s.size ≤ 65536
  · exact lexP_of s hs (fun b t hb h => oneP_en s b t hb h) (fun b q h => oneP_no s b q h) w hg
  · exact lexP_long s (by omega) w
end Go.Proofs.YthffklhojdldkaaGreatDoor

namespace Go.Proofs.YthffklhojdldkaaGreatDoor
open Go.RowKit
def ex1 : ByteArray := ⟨#[97, 32, 60, 45, 32, 39, 120, 92, 110, 39, 32, 47, 32, 91, 97, 45, 122, 93, 43, 32, 45, 45, 32, 110, 111, 116, 101]⟩
def ex2 : ByteArray := ⟨#[97, 36]⟩
def wk1B : Sum (List Tk) (Nat × Int) → Bool
  | .inl [a, _, c, _, _, _] => a.kd == 1 && a.nn == 0 && a.fr == 0 && a.en == 1 && a.tx.data.toList == [97] && a.s0 == 0 && a.s1 == 0 && a.s2 == 0 && a.s3 == 0 && c.tx.data.toList == [120, 10] && c.en == 10
  | _ => false
def wk2B : Sum (List Tk) (Nat × Int) → Bool
  | .inr q => q.1 == 1 && q.2 == 50
  | _ => false
set_option maxRecDepth 1000000 in
theorem wk2 : wk2B (lexR (oneP ex2) ex2) = true := by kernel_rfl
set_option maxRecDepth 1000000 in
theorem wk1 : wk1B (lexR (oneP ex1) ex1) = true := by kernel_rfl
theorem text_eq {s : ByteArray} {l : List UInt8} (h : (s.data.toList == l) = true) : s = ⟨l.toArray⟩ := by
  have h := beq_iff_eq.1 h
  cases s with
  | mk d => simp at h; rw [← h]
theorem wk1_get : ∃ b c d e f, lexR (oneP ex1) ex1 = .inl [⟨1, 0, 0, 1, ⟨#[97]⟩, 0, 0, 0, 0⟩, b, c, d, e, f] ∧ c.tx = ⟨#[120, 10]⟩ ∧ c.en = 10 := by
  have h := wk1
  generalize lexR (oneP ex1) ex1 = r at *
  match r, h with
  | .inl [a, b, c, d, e, f], h =>
    simp only [wk1B, Bool.and_eq_true, beq_iff_eq] at h
    obtain ⟨⟨⟨⟨⟨⟨⟨⟨⟨⟨h0, h1⟩, h2⟩, h3⟩, h4⟩, h5⟩, h6⟩, h7⟩, h8⟩, h9⟩, h10⟩ := h
    refine ⟨b, c, d, e, f, ?_, text_eq (beq_iff_eq.2 h9), h10⟩
    have h4 := text_eq (beq_iff_eq.2 h4)
    obtain ⟨a0, a1, a2, a3, a4, a5, a6, a7, a8⟩ := a
    dsimp only at *
    subst h0 h1 h2 h3 h4 h5 h6 h7 h8
    rfl
theorem wk2_get : lexR (oneP ex2) ex2 = .inr (1, 50) := by
  have h := wk2
  generalize lexR (oneP ex2) ex2 = r at *
  match r, h with
  | .inr q, h =>
    simp only [wk2B, Bool.and_eq_true, beq_iff_eq] at h
    obtain ⟨a, b⟩ := q
    obtain ⟨h1, h2⟩ := h
    dsimp only at *
    subst h1 h2
    rfl
set_option maxRecDepth 100000 in
set_option maxHeartbeats 8000000 in
theorem works_any (w : World) (hg : SG w) : Calls Tryz.prog 11 #[] w fun e w' => e = .returned (.bool true) ∧ Below w.heap.size w w' := by
  obtain ⟨b, c, d, e, f, hl, htx, hen⟩ := wk1_get
  have HL1 : Hid (Calls Tryz.prog 12 #[.string ex1] w fun e' w' => (∃ v, e' = .returned (.tuple #[v, .agg #[.int .i64 0, .int .i64 0]]) ∧ w'.ownsRow w.heap.size 45 9 v 6 (tkc [⟨1, 0, 0, 1, ⟨#[97]⟩, 0, 0, 0, 0⟩, b, c, d, e, f])) ∧ Below w.heap.size w w') := by
    have h := lexP_any ex1 w hg
    rw [hl] at h
    exact h
  have HL2 : Hid (∀ w, SG w → Calls Tryz.prog 12 #[.string ex2] w fun e' w' => e' = .returned (.tuple #[.slice none 0 0, .agg #[.int .i64 1, .int .i64 50]]) ∧ Below w.heap.size w w') := fun w g => by
    have h := lexP_any ex2 w g
    rw [wk2_get] at h
    exact h
  have HG := (show Hid (SG w) from hg)
  have e1 := eq26 0 0 0 0
  have e2 := eq26 1 50 1 50
  have e3 := tok_eql ⟨1, 0, 0, 1, ⟨#[97]⟩, 0, 0, 0, 0⟩
  unfold ex1 at HL1
  unfold ex2 at HL2
  clear hg hl
  go_enter Tryz.func11, Tryz.ntmps11
  go_wp2_with fail
  refine HL1.out.mono ?_
  rintro e' w1 ⟨⟨v, rfl, ho⟩, b1⟩
  obtain ⟨A, cp, rfl, hr⟩ := own_rdt ho rfl
  have HR1 := (show Hid _ from hr.later (below_box w1 (fxO 0 0)))
  have HB1 := (show Hid (Below w.heap.size w (w1.alloc (fxO 0 0)) ∧ SG (w1.alloc (fxO 0 0))) from ⟨b1.alloc b1.size _, (HG.out.later b1).later (below_box _ _)⟩)
  have HF1 := (show Hid (FX (w1.alloc (fxO 0 0)) w1.heap.size 0 0) from ⟨heap_alloc_new w1 _⟩)
  clear ho b1 hr HL1
  go_wp2_with fail
  refine (HL2.out _ HB1.out.2).mono ?_
  rintro e' w2 ⟨rfl, b2⟩
  have HR2 := (show Hid _ from HR1.out.later b2)
  have HF2 := (show Hid (FX w2 w1.heap.size 0 0) from HF1.out.below b2)
  have HB2 := (show Hid (Below w.heap.size w w2) from HB1.out.1.trans (b2.mono HB1.out.1.size))
  have hb2 := HB2.out.size
  clear b2 HR1 HF1 HB1 HL2
  obtain ⟨g, rfl, lt, hc⟩ := HR2.out.rd (by simp)
  obtain ⟨a0, a1, a2, a3, a4, a5, a6, a7, a8⟩ := hc 0 _ rfl
  obtain ⟨d0, d1, d2, d3, d4, d5, d6, d7, d8⟩ := hc 2 _ rfl
  rw [htx] at d4
  rw [hen] at d3
  have k0 := HF2.out.c0
  have k1 := HF2.out.c1
  have lt2 := HF2.out.lt
  clear hc HR2 HF2 htx hen
  go_wp2_with fail
  go_ret
  exact ⟨rfl, HB2.out.alloc hb2 _⟩
end Go.Proofs.YthffklhojdldkaaGreatDoor

namespace Go.Proofs.YthffklhojdldkaaGreatDoor
open Go.RowKit
theorem TX.keepT {W W' : World} {b c : Nat} {t : Tk} (h : TX W c t) (hk : KeepT b W W') (hc : c ≠ b) : TX W' c t := h.same (hk.block c h.lt hc (fun a f => by rw [h.heap]; intro e; cases e))
/-- While the text is put together. -/
structure PjT (w wr : World) (q : Nat) (l : List UInt8) : Prop where
  k : Lib.IsBuilder 50 5 q q (Lib.byteCells l) wr
  b : Below w.heap.size w wr
  lo : w.heap.size ≤ q
  lt : q < wr.heap.size
theorem PjT.below {w wr w' : World} {b : Nat} {l : List UInt8} (h : PjT w wr b l) (hb : Below wr.heap.size wr w') : PjT w w' b l := ⟨bld_below h.k hb, h.b.trans (hb.mono h.b.size), h.lo, Nat.lt_of_lt_of_le h.lt hb.size⟩
theorem PjT.more {w wr w' : World} {b : Nat} {l m : List UInt8} {bs : List Value} (h : PjT w wr b l) (hk : Lib.IsBuilder 50 5 b b (Lib.byteCells l ++ bs) w') (hm : bs = Lib.byteCells m) (hb : Below b wr w') : PjT w w' b (l ++ m) := ⟨by rw [bcells, ← hm]; exact hk, h.b.trans (hb.mono h.lo), h.lo, Nat.lt_of_lt_of_le h.lt hb.size⟩
set_option maxRecDepth 100000 in
set_option maxHeartbeats 16000000 in
theorem textP_any (A : Option Addr) (c : Nat) (L : List Tk) (w : World) (hg : GW w) (hr : RdO w A L) (hl : L.length ≤ 140737488355328) (hb : ∀ t ∈ L, TkB t) : Calls Tryz.prog 8 #[.slice A L.length c] w fun e w' => e = .returned (.tuple #[.string (txR L).1, .int .i64 (txR L).2]) ∧ Below w.heap.size w w' := by
  have HK : Hid (Calls Tryz.prog 6 #[.slice A L.length c] w fun e w' => e = .returned (.tuple #[.int .i64 ((ckR L).1 : Int), .int .i64 (ckR L).2]) ∧ Below w.heap.size w w') := checkP_any A c L w hr hl hb
  by_cases hc : (ckR L).2 = 0
  · obtain ⟨hl2, hall⟩ := ckR_all hc
    have HC0 := (show Hid _ from hc)
    have HR := (show Hid _ from hr)
    have HGG := (show Hid _ from hg)
    have HG := (show Hid (∀ k, k < L.length → ∃ t, L[k]? = some t ∧ riF t = true ∧ TkB t ∧ L ≠ []) from fun k hk => ⟨L[k], List.getElem?_eq_getElem hk, hall _ (List.getElem_mem hk), hb _ (List.getElem_mem hk), by rintro rfl; simp at hk⟩)
    rw [hc] at HK
    clear hc hr hg hb hl hall
    generalize (ckR L).1 = ci at HK
    go_enter Tryz.func8, Tryz.ntmps8
    go_wp2_with fail
    refine (show Calls _ _ _ _ _ from HK).mono ?_
    rintro e w1 ⟨rfl, hb1⟩
    have H0 := (show Hid (PjT w (w1.alloc (.cells #[.pointer none, .slice none 0 0] 50)) w1.heap.size (jT L 0)) from ⟨Lib.fresh_isBuilder 50 5 w1, hb1.alloc hb1.size _, hb1.size, by simp⟩)
    clear hb1 HK
    generalize hB : w1.heap.size = B at H0
    go_wp2_with fail
    clear hB
    go_loopw [19] (fun t wr => ∃ k : Nat, k ≤ L.length ∧ t = .int .i64 k ∧ Hid (PjT w wr B (jT L k)) ∧ (jT L k).length ≤ 65536) (fun t _ => L.length - (intOf t).toNat)
    case atStart => exact ⟨0, by omega, by go_num, H0, by show 0 ≤ _; omega⟩
    case round =>
      obtain ⟨k, hk, rfl, HP, hq⟩ := hrel
      clear H0
      by_cases hlt : k < L.length
      · obtain ⟨t, ht, hri, hb, hne⟩ := HG.out k hlt
        obtain ⟨g, o, rfl, lt, n1⟩ := HR.out.rd hne
        have key : ∀ j, wr.cell? ⟨g, j, none⟩ = w.cell? ⟨g, j, none⟩ := fun j => HP.out.b.cell (p := ⟨g, j, none⟩) lt
        obtain ⟨a0, a1, a2, a3, a4, a5, a6, a7, a8⟩ := n1 k _ ht
        rw [← key] at a0 a1 a2 a3 a4 a5 a6 a7 a8
        have hg1 : g < wr.heap.size := Nat.lt_of_lt_of_le lt HP.out.b.size
        have z0 : (0 : Int) ≤ (k : Int) := by omega
        have z1 : (k : Int) < (L.length : Int) := by omega
        have HJ := (show Hid _ from jT_some ht)
        have hxl := tkX_len hri hb
        have HY := (show Hid (∀ W, Below w.heap.size w W → Calls Tryz.prog 18 #[tkG t] W fun e w' => e = .returned (.string (tkX t)) ∧ Below W.heap.size W w') from fun W hW => showP_any t hri hb W (HGG.out.later hW))
        obtain ⟨kd, nn, fr, en, tx, s0, s1, s2, s3⟩ := t
        dsimp only [tkG] at a0 a1 a2 a3 a4 a5 a6 a7 a8 HY
        have HT := (show Hid (TX (wr.alloc (tkO ⟨kd, nn, fr, en, tx, s0, s1, s2, s3⟩)) wr.heap.size ⟨kd, nn, fr, en, tx, s0, s1, s2, s3⟩) from TX.new wr _)
        have HP0 := (show Hid _ from HP.out.below (below_box wr (tkO ⟨kd, nn, fr, en, tx, s0, s1, s2, s3⟩)))
        have hBlt := HP.out.lt
        clear ht hri hb hne n1 key HG HR HGG
        generalize tkX ⟨kd, nn, fr, en, tx, s0, s1, s2, s3⟩ = X at *
        by_cases hk0 : k = 0
        · have t0 : ¬ (0 : Int) < (k : Int) := by omega
          rw [if_pos hk0, List.append_nil] at HJ
          have HP1 := HP0
          clear hk0 HP HT HP0
          go_wp2_with fail
          refine (HY.out _ HP1.out.b).mono ?_
          rintro e w4 ⟨rfl, hb4⟩
          have HP4 := (show Hid (PjT w w4 B (jT L k)) from HP1.out.below hb4)
          clear hb4 HP1 HY
          go_wp2_with fail
          refine (writeString_any B _ X _ HP4.out.k ?_).mono ?_
          · rw [Lib.byteCells_length]; omega
          rintro e w5 ⟨rfl, hk5, hb5, _⟩
          have HP5 := (show Hid (PjT w w5 B (jT L (k + 1))) from by
            have h := HP4.out.more hk5 (scells X) hb5
            rw [HJ.out]
            exact h)
          clear hk5 hb5 HP4
          go_wp2_with fail
          refine (Tryz.Builder_Len B B _ _ HP5.out.k).mono ?_
          rintro e w6 ⟨rfl, rfl⟩
          rw [Lib.byteCells_length]
          by_cases hbig : 65536 < (jT L (k + 1)).length
          · have v6 : (65536 : Int) < ((jT L (k + 1)).length : Int) := by omega
            have HF := (show Hid (txR L = (⟨#[]⟩, 2)) from txR_long HC0.out (by omega) hbig)
            have HB := (show Hid _ from HP5.out.b)
            clear hbig HP5
            go_wp2_with fail
            go_ret2
            exact ⟨ret_te HF.out, HB.out⟩
          · have v6 : ¬ (65536 : Int) < ((jT L (k + 1)).length : Int) := by omega
            have hq6 : (jT L (k + 1)).length ≤ 65536 := by omega
            clear hbig
            go_wp2_with fail
            go_roundw
            case rel => exact ⟨k + 1, by omega, by go_num, HP5, hq6⟩
            case measure => simp [intOf]; omega
        · have t0 : (0 : Int) < (k : Int) := by omega
          rw [if_neg hk0] at HJ
          clear hk0
          go_wp2_with fail
          refine (writeByte_any B _ 32 _ HP0.out.k (by rw [Lib.byteCells_length]; omega)).mono ?_
          rintro e w2 ⟨rfl, hk2, hb2, hkt⟩
          have HP1 := (show Hid (PjT w w2 B (jT L k ++ [32])) from HP0.out.more hk2 rfl hb2)
          have HT2 := (show Hid _ from HT.out.keepT hkt (by omega))
          obtain ⟨c0, c1, c2, c3, c4, c5, c6, c7, c8⟩ := HT2.out.cells
          dsimp only at c0 c1 c2 c3 c4 c5 c6 c7 c8
          have hq32 : (jT L k ++ [32]).length ≤ 65537 := by rw [List.length_append]; show _ + 1 ≤ _; omega
          clear hk2 hb2 hkt HP HT HP0 a0 a1 a2 a3 a4 a5 a6 a7 a8 HT2
          go_wp2_with fail
          refine (HY.out _ HP1.out.b).mono ?_
          rintro e w4 ⟨rfl, hb4⟩
          have HP4 := (show Hid (PjT w w4 B (jT L k ++ [32])) from HP1.out.below hb4)
          clear hb4 HP1 HY
          go_wp2_with fail
          refine (writeString_any B _ X _ HP4.out.k ?_).mono ?_
          · rw [Lib.byteCells_length]; omega
          rintro e w5 ⟨rfl, hk5, hb5, _⟩
          have HP5 := (show Hid (PjT w w5 B (jT L (k + 1))) from by
            have h := HP4.out.more hk5 (scells X) hb5
            rw [HJ.out]
            exact h)
          clear hk5 hb5 HP4
          go_wp2_with fail
          refine (Tryz.Builder_Len B B _ _ HP5.out.k).mono ?_
          rintro e w6 ⟨rfl, rfl⟩
          rw [Lib.byteCells_length]
          by_cases hbig : 65536 < (jT L (k + 1)).length
          · have v6 : (65536 : Int) < ((jT L (k + 1)).length : Int) := by omega
            have HF := (show Hid (txR L = (⟨#[]⟩, 2)) from txR_long HC0.out (by omega) hbig)
            have HB := (show Hid _ from HP5.out.b)
            clear hbig HP5
            go_wp2_with fail
            go_ret2
            exact ⟨ret_te HF.out, HB.out⟩
          · have v6 : ¬ (65536 : Int) < ((jT L (k + 1)).length : Int) := by omega
            have hq6 : (jT L (k + 1)).length ≤ 65536 := by omega
            clear hbig
            go_wp2_with fail
            go_roundw
            case rel => exact ⟨k + 1, by omega, by go_num, HP5, hq6⟩
            case measure => simp [intOf]; omega
      · obtain rfl : k = L.length := by omega
        have HF := (show Hid (txR L = (txO (jT L L.length), 0)) from txR_ok HC0.out (by omega))
        clear HG HR HGG HC0
        go_wp2_with fail
        refine (Tryz.Builder_String_any B B (jT L L.length) _ HP.out.k (Nat.le_of_lt HP.out.lt)).mono ?_
        rintro e w6 ⟨rfl, hb6⟩
        have HB6 := (show Hid (Below w.heap.size w w6) from HP.out.b.trans (hb6.mono HP.out.lo))
        clear hb6 HP
        go_wp2_with fail
        go_ret2
        exact ⟨ret_te HF.out, HB6.out⟩
  · have HE := (show Hid _ from txR_bad hc)
    have v : ((ckR L).2 != 0) = true := by rw [bne, beq_eq_false_iff_ne.2 hc]; rfl
    clear hr hg hb hl hc
    generalize (ckR L).2 = q at *
    generalize (ckR L).1 = ci at *
    go_enter Tryz.func8, Tryz.ntmps8
    go_wp2_with fail
    refine (show Calls _ _ _ _ _ from HK).mono ?_
    rintro e w1 ⟨rfl, hb1⟩
    have HB := (show Hid _ from hb1)
    clear hb1 HK
    go_wp2_with fail
    go_ret2
    exact ⟨ret_te HE.out, HB.out⟩
end Go.Proofs.YthffklhojdldkaaGreatDoor

namespace Go.Proofs.YthffklhojdldkaaGreatDoor
open Go.RowKit
theorem text_bytes {w : World} {base : Nat} {v : Value} {l : List UInt8} (h : w.ownsRow base 5 1 v l.length (Lib.byteCells l)) : (convert 48 9 v).run Tryz.prog w = .ok (.string (txO l)) w := by
  have e : Lib.byteCells l = (l.map fun x => (x.toNat : Int)).map (Value.int .u8) := by unfold Lib.byteCells; rw [List.map_map]; rfl
  have h2 := text_own (l := l.map fun x => (x.toNat : Int)) (by rw [List.length_map, ← e]; exact h)
  rw [asT_nat] at h2
  exact h2
/-- While the text is put together. -/
structure DjT (w wr : World) (v : Value) (l : List UInt8) : Prop where
  o : wr.ownsRow w.heap.size 5 1 v l.length (Lib.byteCells l)
  b : Below w.heap.size w wr
theorem DjT.below {w wr w' : World} {v : Value} {l : List UInt8} (h : DjT w wr v l) (hb : Below wr.heap.size wr w') : DjT w w' v l := ⟨own_below' h.o hb, h.b.trans (hb.mono h.b.size)⟩
set_option maxRecDepth 100000 in
set_option maxHeartbeats 16000000 in
theorem textD_any (A : Option Addr) (c : Nat) (L : List Tk) (w : World) (hr : RdO w A L) (hl : L.length ≤ 140737488355328) (hb : ∀ t ∈ L, TkB t) : Calls Tryz.prog 9 #[.slice A L.length c] w fun e w' => e = .returned (.tuple #[.string (txR L).1, .int .i64 (txR L).2]) ∧ Below w.heap.size w w' := by
  have HK : Hid (Calls Tryz.prog 7 #[.slice A L.length c] w fun e w' => e = .returned (.tuple #[.int .i64 ((ckR L).1 : Int), .int .i64 (ckR L).2]) ∧ Below w.heap.size w w') := checkD_any A c L w hr hl hb
  obtain ⟨i0, hinf, hz0, hz1, hz2⟩ := info_parts Tryz.info5
  by_cases hc : (ckR L).2 = 0
  · obtain ⟨hl2, hall⟩ := ckR_all hc
    have HC0 := (show Hid _ from hc)
    have HR := (show Hid _ from hr)
    have HG := (show Hid (∀ k, k < L.length → ∃ t, L[k]? = some t ∧ riF t = true ∧ TkB t ∧ L ≠ []) from fun k hk => ⟨L[k], List.getElem?_eq_getElem hk, hall _ (List.getElem_mem hk), hb _ (List.getElem_mem hk), by rintro rfl; simp at hk⟩)
    rw [hc] at HK
    clear hc hr hb hl hall
    generalize (ckR L).1 = ci at HK
    go_enter Tryz.func9, Tryz.ntmps9
    go_wp2_with fail
    refine (show Calls _ _ _ _ _ from HK).mono ?_
    rintro e w1 ⟨rfl, hb1⟩
    have H0 := (show Hid (DjT w w1 (.slice none 0 0) (jT L 0)) from ⟨World.ownsRow_nil _ _ _ _, hb1⟩)
    clear hb1 HK
    go_wp2_with fail
    go_loopw [6, 7] (fun v t wr => ∃ k : Nat, k ≤ L.length ∧ t = .int .i64 k ∧ Hid (DjT w wr v (jT L k)) ∧ (jT L k).length ≤ 65536) (fun _ t _ => L.length - (intOf t).toNat)
    case atStart => exact ⟨0, by omega, by go_num, H0, by show 0 ≤ _; omega⟩
    case round =>
      obtain ⟨k, hk, rfl, HP, hq⟩ := hrel
      clear H0
      obtain ⟨ao, cap, hv⟩ := own_slice HP.out.o
      subst hv
      by_cases hlt : k < L.length
      · obtain ⟨t, ht, hri, hb, hne⟩ := HG.out k hlt
        obtain ⟨g, o, rfl, lt, n1⟩ := HR.out.rd hne
        have key : ∀ W, Below w.heap.size w W → ∀ j, W.cell? ⟨g, j, none⟩ = w.cell? ⟨g, j, none⟩ := fun W hW j => hW.cell (p := ⟨g, j, none⟩) lt
        have HTR := (show Hid _ from n1 k _ ht)
        have z0 : (0 : Int) ≤ (k : Int) := by omega
        have z1 : (k : Int) < (L.length : Int) := by omega
        have HJ := (show Hid _ from jT_some ht)
        have hxl := tkX_len hri hb
        have HY := (show Hid (∀ W, Calls Tryz.prog 21 #[tkG t] W fun e w' => e = .returned (.string (tkX t)) ∧ Below W.heap.size W w') from fun W => text_any t hri hb W)
        have HKY := (show Hid _ from key)
        obtain ⟨kd, nn, fr, en, tx, s0, s1, s2, s3⟩ := t
        dsimp only [tkG] at HY
        clear ht hri hb hne n1 key HG HR
        generalize tkX ⟨kd, nn, fr, en, tx, s0, s1, s2, s3⟩ = X at *
        by_cases hk0 : k = 0
        · have t0 : ¬ (0 : Int) < (k : Int) := by omega
          rw [if_pos hk0, List.append_nil] at HJ
          have HP1 := HP
          obtain ⟨a0, a1, a2, a3, a4, a5, a6, a7, a8⟩ := HTR.out
          rw [← HKY.out _ HP1.out.b] at a0 a1 a2 a3 a4 a5 a6 a7 a8
          dsimp only at a0 a1 a2 a3 a4 a5 a6 a7 a8
          clear hk0 HP HTR HKY
          go_wp2_with fail
          refine (HY.out _).mono ?_
          rintro e w4 ⟨rfl, hb4⟩
          have HP4 := (show Hid _ from HP1.out.below hb4)
          clear hb4 HP1 HY
          go_wp2_with (at_builtin; refine Lib.wpList_append_own_string _ rfl _ _ 48 9 rfl w.heap.size 5 i0 Tryz.underlying48 Tryz.underlying9 hinf hz0 hz1 hz2 _ _ _ rfl HP4.out.o X rfl ?d3 ?d4 ?d5 ?_)
          case d3 => unfold maxLen; omega
          case d4 => omega
          case d5 => exact HP4.out.b.size
          intro v5 w5 hown5 hgrow5 _
          have HP5 := (show Hid (DjT w w5 v5 (jT L (k + 1))) from ⟨by
            rw [HJ.out, List.length_append, bcells]
            exact hown5, HP4.out.b.grown hgrow5 HP4.out.b.size (fun j e => (HP4.out.o.lt j e).1)⟩)
          clear hown5 hgrow5 HP4
          obtain ⟨ao5, cap5, hv5⟩ := own_slice HP5.out.o
          subst hv5
          by_cases hbig : 65536 < (jT L (k + 1)).length
          · have v6 : (65536 : Int) < ((jT L (k + 1)).length : Int) := by omega
            have HF := (show Hid (txR L = (⟨#[]⟩, 2)) from txR_long HC0.out (by omega) hbig)
            have HB := (show Hid _ from HP5.out.b)
            clear hbig HP5
            go_wp2_with fail
            go_ret2
            exact ⟨ret_te HF.out, HB.out⟩
          · have v6 : ¬ (65536 : Int) < ((jT L (k + 1)).length : Int) := by omega
            have hq6 : (jT L (k + 1)).length ≤ 65536 := by omega
            clear hbig
            go_wp2_with fail
            go_roundw
            case rel => exact ⟨k + 1, by omega, by go_num, HP5, hq6⟩
            case measure => simp [intOf]; omega
        · have t0 : (0 : Int) < (k : Int) := by omega
          rw [if_neg hk0] at HJ
          clear hk0
          go_wp2_with (at_builtin; refine wpList_append_own _ rfl _ _ 48 rfl w.heap.size 5 i0 (.int .u8 0) 1 1 Tryz.underlying48 hinf hz0 hz1 hz2 rfl (by decide) _ _ _ rfl (HP.out.o.alloc _) ⟨wr.heap.size, 0, none⟩ 1 1 [.int .u8 32] rfl rfl ?c1 ?c2 ?c3 ?c4 ?c5 ?_)
          case c1 => exact (Q.lit_own [32] (by simp) wr).cells rfl
          case c2 => first | rfl | (intro u hu; simp at hu; subst hu; rfl)
          case c3 => unfold maxLen; omega
          case c4 => omega
          case c5 => have := HP.out.b.size; simp; omega
          intro v2 w2 hown2 hgrow2 _
          have HP1 := (show Hid (DjT w w2 v2 (jT L k ++ [32])) from ⟨by
            rw [List.length_append, bcells]
            exact hown2, (HP.out.b.alloc HP.out.b.size (.cells #[.int .u8 32] 5)).grown hgrow2 (by have := HP.out.b.size; simp; omega) (fun j e => (HP.out.o.lt j e).1)⟩)
          obtain ⟨a0, a1, a2, a3, a4, a5, a6, a7, a8⟩ := HTR.out
          rw [← HKY.out _ HP1.out.b] at a0 a1 a2 a3 a4 a5 a6 a7 a8
          dsimp only at a0 a1 a2 a3 a4 a5 a6 a7 a8
          have hq32 : (jT L k ++ [32]).length ≤ 65537 := by rw [List.length_append]; show _ + 1 ≤ _; omega
          clear hown2 hgrow2 HP HTR HKY
          generalize jT L k ++ [32] = M at *
          obtain ⟨ao2, cap2, hv2⟩ := own_slice HP1.out.o
          subst hv2
          go_wp2_with fail
          refine (HY.out _).mono ?_
          rintro e w4 ⟨rfl, hb4⟩
          have HP4 := (show Hid _ from HP1.out.below hb4)
          clear hb4 HP1 HY
          go_wp2_with (at_builtin; refine Lib.wpList_append_own_string _ rfl _ _ 48 9 rfl w.heap.size 5 i0 Tryz.underlying48 Tryz.underlying9 hinf hz0 hz1 hz2 _ _ _ rfl HP4.out.o X rfl ?f3 ?f4 ?f5 ?_)
          case f3 => unfold maxLen; omega
          case f4 => omega
          case f5 => exact HP4.out.b.size
          intro v5 w5 hown5 hgrow5 _
          have HP5 := (show Hid (DjT w w5 v5 (jT L (k + 1))) from ⟨by
            rw [HJ.out, List.length_append, bcells]
            exact hown5, HP4.out.b.grown hgrow5 HP4.out.b.size (fun j e => (HP4.out.o.lt j e).1)⟩)
          clear hown5 hgrow5 HP4
          obtain ⟨ao5, cap5, hv5⟩ := own_slice HP5.out.o
          subst hv5
          by_cases hbig : 65536 < (jT L (k + 1)).length
          · have v6 : (65536 : Int) < ((jT L (k + 1)).length : Int) := by omega
            have HF := (show Hid (txR L = (⟨#[]⟩, 2)) from txR_long HC0.out (by omega) hbig)
            have HB := (show Hid _ from HP5.out.b)
            clear hbig HP5
            go_wp2_with fail
            go_ret2
            exact ⟨ret_te HF.out, HB.out⟩
          · have v6 : ¬ (65536 : Int) < ((jT L (k + 1)).length : Int) := by omega
            have hq6 : (jT L (k + 1)).length ≤ 65536 := by omega
            clear hbig
            go_wp2_with fail
            go_roundw
            case rel => exact ⟨k + 1, by omega, by go_num, HP5, hq6⟩
            case measure => simp [intOf]; omega
      · obtain rfl : k = L.length := by omega
        have HF := (show Hid (txR L = (txO (jT L L.length), 0)) from txR_ok HC0.out (by omega))
        have hct := text_bytes HP.out.o
        have HB := (show Hid _ from HP.out.b)
        clear HG HR HC0 HP
        go_wp2_with fail
        go_ret2
        exact ⟨ret_te HF.out, HB.out⟩
  · have HE := (show Hid _ from txR_bad hc)
    have v : ((ckR L).2 != 0) = true := by rw [bne, beq_eq_false_iff_ne.2 hc]; rfl
    clear hr hb hl hc
    generalize (ckR L).2 = q at *
    generalize (ckR L).1 = ci at *
    go_enter Tryz.func9, Tryz.ntmps9
    go_wp2_with fail
    refine (show Calls _ _ _ _ _ from HK).mono ?_
    rintro e w1 ⟨rfl, hb1⟩
    have HB := (show Hid _ from hb1)
    clear hb1 HK
    go_wp2_with fail
    go_ret2
    exact ⟨ret_te HE.out, HB.out⟩
end Go.Proofs.YthffklhojdldkaaGreatDoor

namespace Go.Proofs.YthffklhojdldkaaGreatDoor
open Go.RowKit
set_option maxRecDepth 100000 in
set_option maxHeartbeats 8000000 in
theorem texts_any (A : Option Addr) (c : Nat) (L : List Tk) (w : World) (hg : GW w) (hin : InT w A c L) (hl : L.length * 80 ≤ 140737488351232) (hb : ∀ t ∈ L, TkB t) : Calls Tryz.prog 3 #[.slice A L.length c] w fun e w' => e = .returned (.bool true) ∧ Below w.heap.size w w' := by
  have H5 : Hid (∀ _ : Unit, Calls Tryz.prog 5 #[.slice A L.length c] w fun e w' => (∃ g cap, e = .returned (.slice (some ⟨g, 0, none⟩) L.length cap) ∧ LentR w' w.heap.size g cap L) ∧ Below w.heap.size w w') := fun _ => lent_any A c L w hl hin
  have HIn := (show Hid (∀ W, Below w.heap.size w W → RdO W A L) from fun W hW => hin.r.later hW)
  have HG := (show Hid (∀ W, Below w.heap.size w W → GW W) from fun W hW => hg.later hW)
  have HT := (show Hid _ from hb)
  have hl2 : L.length ≤ 140737488355328 := by omega
  clear hg hin hb
  go_enter Tryz.func3, Tryz.ntmps3
  go_wp2_with fail
  refine (H5.out ()).mono ?_
  rintro e w1 ⟨⟨g, cap, rfl, hl1⟩, hb1⟩
  have HL1 := (show Hid _ from hl1)
  have HB1 := (show Hid _ from hb1)
  clear hl1 hb1 H5
  go_wp2_with fail
  refine (checkP_any _ cap L _ HL1.out.rd hl2 HT.out).mono ?_
  rintro e w2 ⟨rfl, hb2⟩
  have HL2 := (show Hid _ from HL1.out.below hb2)
  have HB2 := (show Hid (Below w.heap.size w w2) from HB1.out.trans (hb2.mono HB1.out.size))
  clear hb2 HL1 HB1
  go_wp2_with fail
  refine (checkD_any _ c L _ (HIn.out _ HB2.out) hl2 HT.out).mono ?_
  rintro e w3 ⟨rfl, hb3⟩
  have HL3 := (show Hid _ from HL2.out.below hb3)
  have HB3 := (show Hid (Below w.heap.size w w3) from HB2.out.trans (hb3.mono HB2.out.size))
  clear hb3 HL2 HB2
  go_wp2_with fail
  refine (textP_any _ cap L _ (HG.out _ HB3.out) HL3.out.rd hl2 HT.out).mono ?_
  rintro e w4 ⟨rfl, hb4⟩
  have HL4 := (show Hid _ from HL3.out.below hb4)
  have HB4 := (show Hid (Below w.heap.size w w4) from HB3.out.trans (hb4.mono HB3.out.size))
  clear hb4 HL3 HB3
  go_wp2_with fail
  refine (textD_any _ c L _ (HIn.out _ HB4.out) hl2 HT.out).mono ?_
  rintro e w5 ⟨rfl, hb5⟩
  have HL5 := (show Hid _ from HL4.out.below hb5)
  have HB5 := (show Hid (Below w.heap.size w w5) from HB4.out.trans (hb5.mono HB4.out.size))
  clear hb5 HL4 HB4
  generalize (txR L).1 = s at *
  generalize (txR L).2 = q at *
  generalize (ckR L).1 = n at *
  generalize (ckR L).2 = m at *
  go_wp2_with fail
  refine (kept_any A c g cap _ L hl _ (HIn.out _ HB5.out) HL5.out).mono ?_
  rintro e w6 ⟨rfl, hb6⟩
  have HB6 := (show Hid (Below w.heap.size w w6) from HB5.out.trans (hb6.mono HB5.out.size))
  clear hb6 HL5 HB5
  go_wp2_with fail
  refine (works_any _ (HG.out _ HB6.out).s).mono ?_
  rintro e w7 ⟨rfl, hb7⟩
  have HB7 := (show Hid (Below w.heap.size w w7) from HB6.out.trans (hb7.mono HB6.out.size))
  clear hb7 HB6
  go_wp2_with fail
  go_ret
  exact ⟨rfl, HB7.out⟩
end Go.Proofs.YthffklhojdldkaaGreatDoor
