/- DERIVED. Plain mathematics and walks, laid together (17). -/
import Derived.Test.YtkihfkcmcdiajaaGreatDoorPk16
namespace Go.Proofs.YtkihfkcmcdiajaaGreatDoor.N
open Go.RowKit
/-- The first rule that is too large, by where it begins. -/
def szGo (E : PE) (z : Nat) : Nat → List Rl → Option (Int × Int)
  | _, [] => none
  | all, r :: rs => if (T.ck r.2.2).2 ≠ 0 then some (plA E z r.1, (T.ck r.2.2).2) else if 2048 < all + r.2.2.length then some (plA E z r.1, 2) else szGo E z (all + r.2.2.length) rs
def szR (E : PE) (z : Nat) (rs : List Rl) : Option (Int × Int) := match rs[200]? with
  | some r => some (plA E z r.1, 2)
  | none => szGo E z 0 rs
/-- The tokens, with what layers 3 and 4 say. -/
def mkE (l : List Tk) : PE := ⟨l, rnP, T.tmB⟩
/-- What becomes of rules that were read. -/
def fin (E : PE) (z : Nat) (r : Sum (List Rl) (Nat × Int)) : Sum (List (ByteArray × List Nd)) (Int × Int) := match r with
  | .inr q => .inr (plA E z q.1, q.2)
  | .inl rs => match szR E z rs with
    | some p => .inr p
    | none => .inl (rs.map fun r => r.2)
/-- A pattern alone. -/
def alN (E : PE) : Sum (List Rl) (Nat × Int) := match exN E 0 with
  | .inr q => .inr q
  | .inl p => if p.1 < E.l.length then .inr (p.1, 60) else .inl [(0, ⟨#[]⟩, p.2)]
/-- What Pattern answers. -/
def paR (s : ByteArray) : Sum (List (ByteArray × List Nd)) (Int × Int) := match lexR (oneP s) s with
  | .inr q => .inr (q.1, q.2)
  | .inl l => fin (mkE l) s.size (alN (mkE l))
end Go.Proofs.YtkihfkcmcdiajaaGreatDoor.N

namespace Go.Proofs.YtkihfkcmcdiajaaGreatDoor
open Go.RowKit
/-- What Lex answers. -/
def LxP (w w' : World) (r : Sum (List Tk) (Nat × Int)) (e : Ending) : Prop := match r with
  | .inr q => e = .returned (.tuple #[.slice none 0 0, .agg #[.int .i64 q.1, .int .i64 q.2]])
  | .inl l => ∃ v, e = .returned (.tuple #[v, .agg #[.int .i64 0, .int .i64 0]]) ∧ w'.ownsRow w.heap.size 79 9 v l.length (tkc l)
/-- Between two tokens. -/
structure AtY (w W : World) (s : ByteArray) (v : Value) (out : List Tk) (i f : Nat) : Prop where
  b : Below w.heap.size w W
  x : FX W w.heap.size 0 0
  g : SG W
  o : W.ownsRow w.heap.size 79 9 v out.length (tkc out)
  hi : i ≤ s.size
  hf : s.size < f + gapN s i
  he : lexGo (oneP s) s f out (gapN s i) = lexR (oneP s) s
  hl : out.length ≤ i
theorem own_stF {W : World} {B n b : Nat} {v : Value} {xs : List Value} {p q : Int} (h : W.ownsRow B 79 9 v n xs) (hx : FX W b p q) (p' q' : Int) : (stF W b p' q').ownsRow B 79 9 v n xs := by
  refine ⟨h.1, ?_⟩
  rcases h.2 with hn | ⟨g, cap, cur, rfl, hB, hgg, rest⟩
  · exact .inl hn
  · refine .inr ⟨g, cap, cur, rfl, hB, ?_, rest⟩
    have hne : g ≠ b := by
      rintro rfl
      rw [hx.heap] at hgg
      injection hgg with h1
      injection h1 with h2 h3
      cases h3
    rw [stF_other p' q' hne]
    exact hgg
theorem own_ne {W : World} {B n b : Nat} {v : Value} {xs : List Value} {p q : Int} (h : W.ownsRow B 79 9 v n xs) (hx : FX W b p q) : v.ownBlock ≠ some b := by
  rcases h.2 with ⟨rfl, _⟩ | ⟨g, cap, cur, rfl, hB, hgg, rest⟩
  · intro q; cases q
  · intro q
    cases q
    rw [hx.heap] at hgg
    injection hgg with h1
    injection h1 with h2 h3
    cases h3
theorem FX.grown {W W' : World} {b : Nat} {p e : Int} {row : Option Nat} (h : FX W b p e) (hg : W.grownBy W' row) (hne : row ≠ some b) : FX W' b p e := ⟨(hg.block b h.lt (fun e => hne e.symm)).trans h.heap⟩
theorem stF_below {B : Nat} {w W : World} {b : Nat} (h : Below B w W) (hb : B ≤ b) (p q : Int) : Below B w (stF W b p q) := (h.setCell (p := ⟨b, 0, none⟩) hb _).setCell (p := ⟨b, 1, none⟩) hb _
theorem ret_lx {fn : Func} {R : Ending → World → Prop} {a : Act} {W : World} {b : Nat} {p e : Int} {v : Value} (hF : fn.results = #[.tmp 2, .cell 3 27]) (hd : a.defers = []) (h2 : a.tmps.getD 2 undef = v) (h3 : a.tmps.getD 3 undef = .pointer (some ⟨b, 0, none⟩)) (hT : FX W b p e) (hR : R (.returned (.tuple #[v, .agg #[.int .i64 p, .int .i64 e]])) W) : bodyPost Tryz.prog fn R .ret a W := by
  have c0 := hT.c0
  have c1 := hT.c1
  refine bodyPost_ret (v := .tuple #[v, .agg #[.int .i64 p, .int .i64 e]]) ?_ hd hR
  simp only [Array.getD_eq_getD_getElem?] at h2 h3
  simp [results, hF, go_sem, h2, h3, c0, c1]
set_option maxRecDepth 100000 in
set_option maxHeartbeats 8000000 in
theorem lexP_of (s : ByteArray) (hs : s.size ≤ 65536)
    (H2 : ∀ b t, b < s.size → oneP s b = .inl t → ∃ e : Nat, t.en = e ∧ b < e ∧ e ≤ s.size) (H3 : ∀ b q, oneP s b = .inr q → q.2 ≠ 0) (w : World) (hg : SG w) :
    Calls Tryz.prog 44 #[.string s] w fun e w' => LxP w w' (lexR (oneP s) s) e ∧ Below w.heap.size w w' := by
  have t1 : ¬ (65536 : Int) < (s.size : Int) := by omega
  obtain ⟨i0, hinf, hz0, hz1, hz2⟩ := info_parts Tryz.info36
  have HB : Hid (∀ k w, k ≤ s.size → Calls Tryz.prog 76 #[.string s, .int .i64 ((k : Nat) : Int)] w fun e w' => e = .returned (.int .i64 (spN blB s k)) ∧ w' = w) := fun k w hk => blanks_any s k (by omega) hk w
  have HLn : Hid (∀ k w, k ≤ s.size → Calls Tryz.prog 78 #[.string s, .int .i64 ((k : Nat) : Int)] w fun e w' => e = .returned (.int .i64 (spN lnB s k)) ∧ w' = w) := fun k w hk => lineEnd_any s k (by omega) hk w
  have HS : Hid (∀ k w, k ≤ s.size → Calls Tryz.prog 77 #[.string s, .int .i64 ((k : Nat) : Int), .string ⟨#[45, 45]⟩] w fun e w' => e = .returned (.bool (pfx s k [45, 45])) ∧ w' = w) := fun k w hk => stands_any s k ⟨#[45, 45]⟩ hk w
  have HO : Hid (∀ b w, b < s.size → SG w → Calls Tryz.prog 79 #[.string s, .int .i64 ((b : Nat) : Int)] w fun e w' => e = .returned (tokP (oneP s b)) ∧ Below w.heap.size w w') := fun b w hb g => readToken_any s b hs hb w g
  have HE := (show Hid ((∀ b t, b < s.size → oneP s b = .inl t → ∃ e : Nat, t.en = e ∧ b < e ∧ e ≤ s.size) ∧ ∀ b q, oneP s b = .inr q → q.2 ≠ 0) from ⟨H2, H3⟩)
  have HG0 := (show Hid (SG w) from hg)
  have H0 := (show Hid (AtY w (w.alloc (fxO 0 0)) s (.slice none 0 0) [] 0 (s.size + 1)) from
    ⟨below_box _ _, ⟨heap_alloc_new w _⟩, hg.later (below_box _ _), World.ownsRow_nil _ _ _ _, by omega, by have := (gapN_bd (s := s) (i := 0) (by omega)).1; omega, by unfold lexR; rw [if_neg (by omega)], Nat.le_refl _⟩)
  clear H2 H3 hg
  go_enter Tryz.func44, Tryz.ntmps44
  go_wp2_with fail
  refine wp_scope_again 2 0 (fun a' W => ∃ (out : List Tk) (i f : Nat) (v u6 u7 u8 u9 u10 u11 u12 u13 u14 u15 u16 u17 u18 u19 u20 u21 u22 u23 u24 u25 u26 u27 u28 u29 u30 u31 u32 u33 u34 u35 u36 u37 u38 u39 u40 u41 u42 u43 u44 : Value), a' = { tmps := #[.string s, undef, .slice none 0 0, .pointer (some ⟨w.heap.size, 0, none⟩), v, .int .i64 i, u6, u7, u8, u9, u10, u11, u12, u13, u14, u15, u16, u17, u18, u19, u20, u21, u22, u23, u24, u25, u26, u27, u28, u29, u30, u31, u32, u33, u34, u35, u36, u37, u38, u39, u40, u41, u42, u43, u44], defers := [] } ∧ Hid (AtY w W s v out i f)) (fun a' _ => s.size - (intOf (a'.tmps.getD 5 undef)).toNat) rfl ?_ ?_
  case refine_2 =>
    rintro a' W ⟨out, i, f, v, u6, u7, u8, u9, u10, u11, u12, u13, u14, u15, u16, u17, u18, u19, u20, u21, u22, u23, u24, u25, u26, u27, u28, u29, u30, u31, u32, u33, u34, u35, u36, u37, u38, u39, u40, u41, u42, u43, u44, rfl, HW⟩
    clear H0
    have hi := HW.out.hi
    have hf := HW.out.hf
    have hol := HW.out.hl
    have hge := spN_ge blB s (by decide) i
    have hle := spN_le blB s (by decide) i hi
    have HBi := (show Hid _ from fun w => HB.out i w hi)
    have HSi := (show Hid _ from fun w => HS.out (spN blB s i) w hle)
    have HLi := (show Hid _ from fun w => HLn.out (spN blB s i) w hle)
    have HGe := (show Hid (spN blB s i = s.size → gapN s i = s.size) from fun h => gapN_end h)
    have HGn := (show Hid (chr s (spN blB s i) = 45 → chr s (spN blB s i + 1) = 45 → gapN s i = gapN s (spN lnB s (spN blB s i)) ∧ spN blB s i < spN lnB s (spN blB s i)) from fun a b => gapN_note a b)
    have HGh := (show Hid (spN blB s i < s.size → ¬ (chr s (spN blB s i) = 45 ∧ chr s (spN blB s i + 1) = 45) → gapN s i = spN blB s i) from fun a b => gapN_here a b)
    have hle2 := spN_le lnB s (by decide) (spN blB s i) hle
    generalize hp : spN blB s i = p at *
    clear HB HS HLn hp
    by_cases hend : p = s.size
    · have HV : Hid (lexR (oneP s) s = .inl out) := by
        show lexR (oneP s) s = _
        rw [← HW.out.he, HGe.out hend]
        obtain ⟨f, rfl⟩ : ∃ g, f = g + 1 := ⟨f - 1, by have := HGe.out hend; omega⟩
        rw [lexGo, if_neg (by omega)]
      have v1 : ((p : Int) == (s.size : Int)) = true := by rw [hend]; exact beq_self_eq_true _
      have f0 := HW.out.x.f0
      have f1' := HW.out.x.f1
      have c0 := HW.out.x.c0
      have c1 := HW.out.x.c1
      clear HSi HLi HGe HGn HGh HO HE hend
      go_wp2_with fail
      refine (HBi.out _).mono ?_
      rintro e W ⟨rfl, rfl⟩
      clear HBi
      go_wp2_with fail
      refine ret_lx rfl rfl rfl rfl (stF_fx HW.out.x 0 0) ⟨?_, stF_below HW.out.b (Nat.le_refl _) 0 0⟩
      rw [HV.out]
      exact ⟨v, rfl, own_stF HW.out.o HW.out.x 0 0⟩
    have v1 : ((p : Int) == (s.size : Int)) = false := by rw [beq_eq_false_iff_ne]; omega
    have hplt : p < s.size := by omega
    by_cases hn : chr s p = 45 ∧ chr s (p + 1) = 45
    · obtain ⟨hg1, hg2⟩ := HGn.out hn.1 hn.2
      have hpf : pfx s p [45, 45] = true := by
        show (chr s p == 45 && (chr s (p + 1) == 45 && true)) = true
        rw [hn.1, hn.2]; rfl
      rw [hpf] at HSi
      generalize spN lnB s p = q at *
      have HW2 := (show Hid (AtY w W s v out q f) from ⟨HW.out.b, HW.out.x, HW.out.g, HW.out.o, hle2, by have := HW.out.hf; rw [hg1] at this; exact this, by rw [← hg1]; exact HW.out.he, by have := HW.out.hl; omega⟩)
      clear HGe HGn HGh HO HE hend hn hg1 hpf HW
      go_wp2_with fail
      refine (HBi.out _).mono ?_
      rintro e W ⟨rfl, rfl⟩
      clear HBi
      go_wp2_with fail
      refine (HSi.out _).mono ?_
      rintro e W ⟨rfl, rfl⟩
      clear HSi
      go_wp2_with fail
      go_step3
      simp (config := { zetaDelta := true }) only [then_goto, inBlock_goto]
      refine Kj_on rfl ?_
      go_wp2_with fail
      refine (HLi.out _).mono ?_
      rintro e W ⟨rfl, rfl⟩
      clear HLi
      go_wp2_with fail
      go_step3
      simp (config := { zetaDelta := true }) only [then_goto]
      refine Kj_back ⟨⟨out, q, f, v, _, _, _, _, _, _, _, _, _, _, _, _, _, _, _, _, _, _, _, _, _, _, _, _, _, _, _, _, _, _, _, _, _, _, _, _, _, _, _, rfl, HW2⟩, ?_⟩
      simp [intOf]
      omega
    · have hg1 := HGh.out hplt hn
      have hpf : pfx s p [45, 45] = false := by
        show (chr s p == 45 && (chr s (p + 1) == 45 && true)) = false
        by_cases h1 : chr s p = 45
        · have h2 : ¬ chr s (p + 1) = 45 := fun q => hn ⟨h1, q⟩
          rw [beq_eq_false_iff_ne.2 h2]; simp
        · rw [beq_eq_false_iff_ne.2 h1]; rfl
      rw [hpf] at HSi
      have HOp := (show Hid (∀ w, SG w → Calls Tryz.prog 79 #[.string s, .int .i64 ((p : Nat) : Int)] w fun e w' => e = .returned (tokP (oneP s p)) ∧ Below w.heap.size w w') from fun w g => HO.out p w hplt g)
      obtain ⟨f, rfl⟩ : ∃ g, f = g + 1 := ⟨f - 1, by omega⟩
      have HU : Hid (lexR (oneP s) s = match oneP s p with
        | .inr q => .inr q
        | .inl t => lexGo (oneP s) s f (out ++ [t]) (gapN s t.en.toNat)) := by show lexR (oneP s) s = _; rw [← HW.out.he, lexGo, hg1, if_pos hplt]; cases oneP s p <;> rfl
      cases ho : oneP s p with
      | inr q =>
        have hne := HE.out.2 p q ho
        have HV : Hid (lexR (oneP s) s = .inr q) := by show lexR (oneP s) s = _; rw [HU.out, ho]
        rw [ho] at HOp
        have t3 : (q.2 != 0) = true := by rw [bne, beq_eq_false_iff_ne.2 hne]; rfl
        clear HGe HGn HGh HO HE hend hn hg1 hpf HLi HU ho hne
        go_wp2_with fail
        refine (HBi.out _).mono ?_
        rintro e W ⟨rfl, rfl⟩
        clear HBi
        go_wp2_with fail
        refine (HSi.out _).mono ?_
        rintro e W ⟨rfl, rfl⟩
        clear HSi
        go_wp2_with fail
        go_step3
        simp (config := { zetaDelta := true }) only [then_goto, inBlock_goto]
        refine Kj_on rfl ?_
        go_wp2_with fail
        refine (HOp.out _ HW.out.g).mono ?_
        rintro e w3 ⟨rfl, b3⟩
        have HB5 := (show Hid (Below w.heap.size w ((w3.alloc (tkO tk0)).alloc (fxO q.1 q.2)) ∧ FX ((w3.alloc (tkO tk0)).alloc (fxO q.1 q.2)) w.heap.size 0 0 ∧ FX ((w3.alloc (tkO tk0)).alloc (fxO q.1 q.2)) (w3.heap.size + 1) q.1 q.2) from
          ⟨(((HW.out.b.trans (b3.mono HW.out.b.size)).alloc (Nat.le_trans HW.out.b.size b3.size) _).alloc (by rw [World.size_alloc]; have := HW.out.b.size; have := b3.size; omega) _), ((HW.out.x.below b3).below (below_box _ _)).below (below_box _ _), ⟨by
            have h := heap_alloc_new (w3.alloc (tkO tk0)) (fxO q.1 q.2)
            rw [World.size_alloc] at h
            exact h⟩⟩)
        have hlt3 := (HW.out.x.below b3).lt
        have ne1 : ¬ w3.heap.size + 1 = w.heap.size := by omega
        have ne2 : ¬ w.heap.size = w3.heap.size + 1 := by omega
        clear b3 HW HOp
        unfold tokP pairV
        go_wp2_with fail
        generalize (w3.alloc (tkO tk0)).alloc (fxO q.1 q.2) = w5 at *
        have f0 := HB5.out.2.1.f0
        have f1' := HB5.out.2.1.f1
        have c0 := HB5.out.2.1.c0
        have c1 := HB5.out.2.1.c1
        have k0 := HB5.out.2.2.c0
        have k1 := HB5.out.2.2.c1
        go_region
        all_goals
          go_wp2_with fail
          simp only [Kj_ret]
          refine ret_lx rfl rfl rfl rfl ((stF_fx HB5.out.2.1 q.1 q.2).below (Below.refl _ _).drew) ⟨?_, (stF_below HB5.out.1 (Nat.le_refl _) q.1 q.2).drew⟩
          rw [HV.out]
          exact rfl
      | inl t =>
        obtain ⟨en, he1, he2, he3⟩ := HE.out.1 p t hplt ho
        have HV : Hid (lexGo (oneP s) s f (out ++ [t]) (gapN s en) = lexR (oneP s) s) := by show _ = lexR (oneP s) s; rw [HU.out, ho]; show _ = lexGo (oneP s) s f (out ++ [t]) (gapN s t.en.toNat); rw [he1]; rfl
        have hgb := gapN_bd he3
        have HEn := (show Hid (t.en = (en : Int)) from he1)
        clear he1
        rw [ho] at HOp
        clear HGe HGn HGh HO HE hend hn hpf HLi HU ho
        go_wp2_with fail
        refine (HBi.out _).mono ?_
        rintro e W ⟨rfl, rfl⟩
        clear HBi
        go_wp2_with fail
        refine (HSi.out _).mono ?_
        rintro e W ⟨rfl, rfl⟩
        clear HSi
        go_wp2_with fail
        go_step3
        simp (config := { zetaDelta := true }) only [then_goto, inBlock_goto]
        refine Kj_on rfl ?_
        go_wp2_with fail
        refine (HOp.out _ HW.out.g).mono ?_
        rintro e w3 ⟨rfl, b3⟩
        have hO : w3.ownsRow w.heap.size 79 9 v out.length (tkc out) := ownB HW.out.o b3
        have HB3 := (show Hid (Below w.heap.size w w3 ∧ FX w3 w.heap.size 0 0 ∧ SG w3) from ⟨HW.out.b.trans (b3.mono HW.out.b.size), HW.out.x.below b3, HW.out.g.later b3⟩)
        have hs3 := HB3.out.1.size
        have HX := (show Hid (TX ((w3.alloc (tkO t)).alloc (fxO 0 0)) w3.heap.size t) from (TX.new w3 t).below (below_box _ _))
        clear b3 HOp HW
        unfold tokP pairV
        obtain ⟨c0, c1, c2, c3, c4, c5, c6, c7, c8⟩ := HX.out.cells
        go_wp2_with (at_builtin; refine wpList_append_lies _ rfl _ _ 42 rfl w.heap.size 79 i0 (tkG tk0) 9 80 Tryz.underlying42 hinf hz0 hz1 hz2 rfl (by decide) _ _ _ rfl (((hO.alloc _).alloc _).alloc _) ⟨w3.heap.size + 1 + 1, 0, none⟩ 1 1 (tkV t) rfl rfl ?c1 (tk_one _) (by decide) ?c3 ?c4 ?c5 (w3.heap.size + 1 + 1 + 1) (by simp) ?_)
        case c1 =>
          have hh := heap_alloc_new ((w3.alloc (tkO t)).alloc (fxO 0 0)) (.cells (tkC t) 79)
          rw [World.size_alloc, World.size_alloc] at hh
          exact World.news_of_block (cs := tkC t) (t := 79) (fr := (0, 0)) hh
        case c3 => unfold maxLen; omega
        case c4 => omega
        case c5 => first | omega | (simp; omega)
        intro g3 cap w4 hown hgrow hat _
        have hgo : ∀ k, v.ownBlock = some k → w.heap.size ≤ k ∧ k < w3.heap.size := fun k e => hO.lt k e
        have hne4 := own_ne hO HB3.out.2.1
        have HX4 := (show Hid (TX w4 w3.heap.size t) from (HX.out.below (below_box _ _)).grown hgrow (fun e => by have := (hgo _ e).2; omega))
        have hb4 : Below w.heap.size w w4 := (((HB3.out.1.alloc hs3 _).alloc (by rw [World.size_alloc]; omega) _).alloc (by rw [World.size_alloc, World.size_alloc]; omega) _).grown hgrow (by rw [World.size_alloc, World.size_alloc, World.size_alloc]; omega) (fun k e => (hgo k e).1)
        have HW4 := (show Hid (AtY w w4 s (.slice (some ⟨g3, 0, none⟩) (out.length + 1) cap) (out ++ [t]) en f) from by
          refine ⟨hb4, (((HB3.out.2.1.below (below_box _ _)).below (below_box _ _)).below (below_box _ _)).grown hgrow hne4, HG0.out.below hb4 HG0.out.lt, ?_, he3, by rw [hg1] at hf; omega, HV.out, by rw [List.length_append, List.length_singleton]; omega⟩
          rw [List.length_append, List.length_singleton, tkc_append, tkc_one]
          exact hown)
        have e3 := HX4.out.cells.c3
        rw [HEn.out] at e3
        clear hown hgrow hat hgo hO HB3 HX HV c0 c1 c2 c3 c4 c5 c6 c7 c8 hne4 hb4 HX4
        go_wp2_with fail
        go_step3
        simp (config := { zetaDelta := true }) only []
        refine Kj_back ⟨⟨out ++ [t], en, f, _, _, _, _, _, _, _, _, _, _, _, _, _, _, _, _, _, _, _, _, _, _, _, _, _, _, _, _, _, _, _, _, _, _, _, _, _, _, _, _, rfl, HW4⟩, ?_⟩
        simp [intOf]
        omega
  case refine_1 =>
    intro hpass
    have HPs := (show Hid _ from hpass)
    clear hpass
    go_wp2_with fail
    go_step3
    rename_i hK
    refine hK _ _ ?_
    refine HPs.out _ _ ?_
    exact ⟨[], 0, s.size + 1, .slice none 0 0, _, _, _, _, _, _, _, _, _, _, _, _, _, _, _, _, _, _, _, _, _, _, _, _, _, _, _, _, _, _, _, _, _, _, _, _, _, _, _, rfl, H0⟩
set_option maxRecDepth 100000 in
set_option maxHeartbeats 8000000 in
theorem lexP_long (s : ByteArray) (hs : 65536 < s.size) (w : World) : Calls Tryz.prog 44 #[.string s] w fun e w' => LxP w w' (lexR (oneP s) s) e ∧ Below w.heap.size w w' := by
  have t1 : (65536 : Int) < (s.size : Int) := by omega
  have HE : Hid (lexR (oneP s) s = .inr (0, 2)) := by show lexR (oneP s) s = _; unfold lexR; rw [if_pos hs]
  go_enter Tryz.func44, Tryz.ntmps44
  go_wp2_with fail
  refine wp_scope_forth 1 0 rfl ?_
  go_wp2_with fail
  simp only [Kj_ret]
  refine ret_lx (b := w.heap.size) (p := 0) (e := 2) rfl rfl rfl rfl ⟨heap_alloc_new w _⟩ ⟨?_, below_box _ _⟩
  rw [HE.out]
  exact rfl
end Go.Proofs.YtkihfkcmcdiajaaGreatDoor

namespace Go.Proofs.YtkihfkcmcdiajaaGreatDoor
open Go.RowKit
theorem litGo_en (s : ByteArray) (q : Int) (b : Nat) (hq : 0 ≤ q) : ∀ (f : Nat) (out : List Int) (i : Nat) (t : Tk), litGo s q b f out i = .inl t → ∃ e : Nat, t.en = e ∧ i < e ∧ e ≤ s.size := by
  intro f
  induction f with
  | zero => intro out i t h; rw [litGo] at h; cases h
  | succ f ih =>
    intro out i t h
    rw [litGo] at h
    split at h
    · cases h
    next h0 =>
    split at h
    next h1 =>
      split at h
      · cases h
      · cases h
        have := chr_lt (s := s) (i := i) (by omega)
        exact ⟨i + 1, rfl, by omega, by omega⟩
    split at h
    · cases h
    split at h
    · obtain ⟨e, h1, h2, h3⟩ := ih _ _ _ h
      exact ⟨e, h1, by omega, h3⟩
    · split at h
      · cases h
      · next c n he =>
        have h4 := escT_lt he
        obtain ⟨e, h1, h2, h3⟩ := ih _ _ _ h
        exact ⟨e, h1, by omega, h3⟩
theorem litGo_ne (s : ByteArray) (q : Int) (b : Nat) : ∀ (f : Nat) (out : List Int) (i : Nat) (p : Nat × Int), litGo s q b f out i = .inr p → p.2 ≠ 0 := by
  intro f
  induction f with
  | zero => intro out i p h; rw [litGo] at h; cases h; simp
  | succ f ih =>
    intro out i p h
    rw [litGo] at h
    split at h
    · cases h; simp
    split at h
    · split at h
      · cases h; simp
      · cases h
    split at h
    · cases h; simp
    split at h
    · exact ih _ _ _ h
    · split at h
      · cases h; simp
      · exact ih _ _ _ h
theorem numR_en {s : ByteArray} {d : Nat} {m n : Int} (h : numR s d m = .inl n) : d < spN dgB s d := by
  unfold numR at h
  split at h
  · cases h
  · omega
theorem nmR_en {s : ByteArray} {b d : Nat} {k : Int} {t : Tk} (hd : d ≤ s.size) (h : nmR s b d k = .inl t) : ∃ e : Nat, t.en = e ∧ d < e ∧ e ≤ s.size := by
  unfold nmR at h
  cases hn : numR s d (gtK k) with
  | inr e => rw [hn] at h; cases h
  | inl n =>
    rw [hn] at h
    cases h
    exact ⟨_, rfl, numR_en hn, spN_le dgB s (by decide) d hd⟩
theorem numR_no {s : ByteArray} {d : Nat} {m e : Int} (h : numR s d m = .inr e) : e ≠ 0 := by
  unfold numR at h
  split at h
  · cases h; simp
  · split at h
    · cases h; simp
    · cases h
theorem nmR_no {s : ByteArray} {b d : Nat} {k : Int} {q : Nat × Int} (h : nmR s b d k = .inr q) : q.2 ≠ 0 := by
  unfold nmR at h
  cases hn : numR s d (gtK k) with
  | inr e => rw [hn] at h; cases h; exact numR_no hn
  | inl n => rw [hn] at h; cases h
theorem nameR_no {s : ByteArray} {b : Nat} {q : Nat × Int} (h : nameR s b = .inr q) : q.2 ≠ 0 := by
  unfold nameR at h
  split at h
  · cases h; simp
  · cases h
theorem grpP_no {s : ByteArray} {b d : Nat} {q : Nat × Int} (h : grpP s b d = .inr q) : q.2 ≠ 0 := by
  unfold grpP at h
  split at h
  · split at h
    · cases h; simp
    · split at h <;> cases h
  · cases h
theorem grpP_en {s : ByteArray} {b d : Nat} {t : Tk} (hd : d ≤ s.size) (h : grpP s b d = .inl t) : ∃ e : Nat, t.en = e ∧ d ≤ e ∧ e ≤ s.size := by
  unfold grpP at h
  split at h
  · split at h
    · cases h
    · split at h
      · next hc =>
        cases h
        have h1 := spN_ge nmB s (by decide) d
        have h2 := chr_lt (s := s) (i := spN nmB s d) (by omega)
        exact ⟨_, rfl, by omega, by omega⟩
      · cases h; exact ⟨d, rfl, Nat.le_refl _, hd⟩
  · cases h; exact ⟨d, rfl, Nat.le_refl _, hd⟩
theorem sgGo_pos (s : ByteArray) (i : Nat) : ∀ l : List (Int × List UInt8), (∀ p ∈ l, p.1 ≠ 0 ∧ 1 ≤ p.2.length) → (sgGo s i l).1 = 0 ∨ 1 ≤ (sgGo s i l).2.length := by
  intro l
  induction l with
  | nil => intro _; exact .inl rfl
  | cons p l ih =>
    intro h
    rw [sgGo]
    split
    · exact .inr (h p (List.mem_cons_self ..)).2
    · exact ih (fun q hq => h q (List.mem_cons_of_mem _ hq))
theorem sgAt_pos (s : ByteArray) (i : Nat) : (sgAt s i).1 = 0 ∨ 1 ≤ (sgAt s i).2.length := sgGo_pos s i sgTab (by decide)
theorem sigP_en {s : ByteArray} {b : Nat} {t : Tk} (hb : b ≤ s.size) (h : sigP s b = .inl t) : ∃ e : Nat, t.en = e ∧ b < e ∧ e ≤ s.size := by
  have h1 := sgAt_len s b hb
  have h2 := sgAt_pos s b
  unfold sigP at h
  split at h
  · cases h
  next h0 =>
  have h3 : 1 ≤ (sgAt s b).2.length := by rcases h2 with q | q; exact absurd q h0; exact q
  split at h
  · obtain ⟨e, a1, a2, a3⟩ := nmR_en h1 h
    exact ⟨e, a1, by omega, a3⟩
  split at h
  · obtain ⟨e, a1, a2, a3⟩ := grpP_en h1 h
    exact ⟨e, a1, by omega, a3⟩
  · cases h
    exact ⟨_, rfl, by omega, h1⟩
theorem sigP_no {s : ByteArray} {b : Nat} {q : Nat × Int} (h : sigP s b = .inr q) : q.2 ≠ 0 := by
  unfold sigP at h
  split at h
  · cases h; simp
  split at h
  · exact nmR_no h
  split at h
  · exact grpP_no h
  · cases h
theorem ptsP_en {s : ByteArray} {b : Nat} {t : Tk} (hb : b + 3 ≤ s.size) (h : ptsP s b = .inl t) : ∃ e : Nat, t.en = e ∧ b < e ∧ e ≤ s.size := by
  have h1 := ptP_le hb
  unfold ptsP at h
  split at h
  · cases h
  split at h
  · next h45 =>
    have h2 := chr_lt (s := s) (i := (ptP s (b + 3)).2.1) (by omega)
    have h3 := ptP_le (s := s) (a := (ptP s (b + 3)).2.1 + 1) (by omega)
    split at h
    · cases h
    split at h
    · next hc =>
      cases h
      have h4 := chr_lt (s := s) (i := (ptP s ((ptP s (b + 3)).2.1 + 1)).2.1) (by omega)
      exact ⟨_, rfl, by omega, by omega⟩
    · cases h
  · split at h
    · next hc =>
      cases h
      have h4 := chr_lt (s := s) (i := (ptP s (b + 3)).2.1) (by omega)
      exact ⟨_, rfl, by omega, by omega⟩
    · cases h
theorem ptsP_no {s : ByteArray} {b : Nat} {q : Nat × Int} (h : ptsP s b = .inr q) : q.2 ≠ 0 := by
  unfold ptsP at h
  split at h
  · cases h; simp
  split at h
  · split at h
    · cases h; simp
    split at h
    · cases h
    · cases h; simp
  · split at h
    · cases h
    · cases h; simp
theorem pctP_en {s : ByteArray} {b : Nat} {t : Tk} (hb : b ≤ s.size) (h : pctP s b = .inl t) : ∃ e : Nat, t.en = e ∧ b < e ∧ e ≤ s.size := by
  unfold pctP at h
  split at h
  · next hp => exact ptsP_en (pfx_len hb hp) h
  split at h
  · exact sigP_en hb h
  split at h
  · next hc => cases h; exact ⟨_, rfl, by omega, by omega⟩
  · cases h
theorem pctP_no {s : ByteArray} {b : Nat} {q : Nat × Int} (h : pctP s b = .inr q) : q.2 ≠ 0 := by
  unfold pctP at h
  split at h
  · exact ptsP_no h
  split at h
  · exact sigP_no h
  split at h
  · cases h
  · cases h; simp
theorem oneP_no (s : ByteArray) (b : Nat) (q : Nat × Int) (h : oneP s b = .inr q) : q.2 ≠ 0 := by
  unfold oneP at h
  split at h
  · exact nameR_no h
  split at h
  · exact nmR_no h
  split at h
  · exact litGo_ne _ _ _ _ _ _ _ h
  split at h
  · unfold clT at h
    cases hr : rdRead s b with
    | inl p => rw [hr] at h; cases h
    | inr p =>
      obtain ⟨a, c⟩ := p
      rw [hr] at h
      have hne := rdRead_ne hr
      dsimp only at h
      split at h
      · cases h; simp
      · cases h; exact hne
  split at h
  · exact pctP_no h
  · exact sigP_no h
theorem rdRead_gt {s : ByteArray} {i : Nat} {x : BitVec 256} {n : Nat} (h : rdRead s i = .inl (x, n)) : i < n := by
  unfold rdRead at h
  split at h
  · simp at h
  · split at h
    · split at h
      · cases hm : rdMembers s (s.size + 1) 0#256 ((i : Int).toNat + 2) with
        | inr pq =>
          obtain ⟨a', c'⟩ := pq
          rw [hm] at h; simp [rdTurn] at h
        | inl p => obtain ⟨y, m⟩ := p; have b := rdMembers_ok hm; rw [hm] at h; simp only [rdTurn, Sum.inl.injEq, Prod.mk.injEq] at h; omega
      · cases hm : rdMembers s (s.size + 1) 0#256 ((i : Int).toNat + 1) with
        | inr pq =>
          obtain ⟨a', c'⟩ := pq
          rw [hm] at h; simp [rdEnd] at h
        | inl p => obtain ⟨y, m⟩ := p; have b := rdMembers_ok hm; rw [hm] at h; simp only [rdEnd, Sum.inl.injEq, Prod.mk.injEq] at h; omega
    · simp at h
theorem oneP_en (s : ByteArray) (b : Nat) (t : Tk) (hb : b < s.size) (h : oneP s b = .inl t) : ∃ e : Nat, t.en = e ∧ b < e ∧ e ≤ s.size := by
  unfold oneP at h
  split at h
  · next hh =>
    unfold nameR at h
    split at h
    · cases h
    · cases h
      have h1 := (spN_next (P := nmB) (s := s) (i := b) (by decide) (by unfold nmB; rw [hh]; rfl)).2
      have h2 := spN_ge nmB s (by decide) (b + 1)
      exact ⟨_, rfl, by omega, spN_le nmB s (by decide) b (by omega)⟩
  split at h
  · exact nmR_en (by omega) h
  split at h
  · next hq =>
    obtain ⟨e, a1, a2, a3⟩ := litGo_en s _ b (by omega) _ _ _ _ h
    exact ⟨e, a1, by omega, a3⟩
  split at h
  · cases hr : rdRead s b with
    | inr p =>
      rw [hr, clT] at h
      split at h <;> cases h
    | inl p =>
      obtain ⟨x, n⟩ := p
      rw [hr] at h
      cases h
      exact ⟨n, rfl, rdRead_gt hr, rdRead_ok hr⟩
  split at h
  · exact pctP_en (by omega) h
  · exact sigP_en (by omega) h
end Go.Proofs.YtkihfkcmcdiajaaGreatDoor

namespace Go.Proofs.YtkihfkcmcdiajaaGreatDoor
open Go.RowKit
theorem lexP_any (s : ByteArray) (w : World) (hg : SG w) : Calls Tryz.prog 44 #[.string s] w fun e w' => LxP w w' (lexR (oneP s) s) e ∧ Below w.heap.size w w' := by
  by_cases hs : s.size ≤ 65536
  · exact lexP_of s hs (fun b t hb h => oneP_en s b t hb h) (fun b q h => oneP_no s b q h) w hg
  · exact lexP_long s (by omega) w
end Go.Proofs.YtkihfkcmcdiajaaGreatDoor

namespace Go.Proofs.YtkihfkcmcdiajaaGreatDoor
open Go.RowKit
/-- A list of bytes as a text. -/
abbrev tx8 (l : List UInt8) : ByteArray := ⟨l.toArray⟩
/-- The byte at a place of a list, or -1. -/
def chL (l : List UInt8) (i : Nat) : Int := match l[i]? with
  | some c => (c.toNat : Int)
  | none => -1
theorem tx_size (l : List UInt8) : (tx8 l).size = l.length := rfl
theorem chr_tx (l : List UInt8) (i : Nat) : chr (tx8 l) i = chL l i := by
  unfold chr chL
  by_cases h : i < l.length
  · rw [dif_pos (show i < (tx8 l).size from h), List.getElem?_eq_getElem h]
    rfl
  · rw [dif_neg (show ¬ i < (tx8 l).size from h), List.getElem?_eq_none (by omega)]
theorem chL_app (p r : List UInt8) (j : Nat) : chL (p ++ r) (p.length + j) = chL r j := by
  unfold chL
  rw [List.getElem?_append_right (by omega), Nat.add_sub_cancel_left]
theorem atj (p r : List UInt8) (j : Nat) : chr (tx8 (p ++ r)) (p.length + j) = chL r j := by rw [chr_tx]; exact chL_app p r j
end Go.Proofs.YtkihfkcmcdiajaaGreatDoor

namespace Go.Proofs.YtkihfkcmcdiajaaGreatDoor
open Go.RowKit
theorem rdMember_at {s : ByteArray} {i a : Nat} {c : Int} (hi : i ≤ s.size) (h : rdMember s i = .inr (a, c)) : a ≤ s.size := by
  unfold rdMember at h
  split at h
  · unfold rdClass at h
    split at h
    · simp at h
    · simp only [Sum.inr.injEq, Prod.mk.injEq] at h; omega
  · split at h
    · simp only [Sum.inr.injEq, Prod.mk.injEq] at h; omega
    · rename_i lo m hm
      split at h
      · rename_i hc
        have hlt : m < s.size := chr_lt (by rw [hc]; omega)
        split at h
        · simp only [Sum.inr.injEq, Prod.mk.injEq] at h; omega
        · split at h
          · simp only [Sum.inr.injEq, Prod.mk.injEq] at h; omega
          · simp at h
      · simp at h
theorem rdMembers_at {s : ByteArray} : ∀ {f : Nat} {x : BitVec 256} {i a : Nat} {c : Int}, i ≤ s.size → rdMembers s f x i = .inr (a, c) → a ≤ s.size := by
  intro f
  induction f with
  | zero => intro x i a c hi h; simp only [rdMembers, Sum.inr.injEq, Prod.mk.injEq] at h; omega
  | succ f ih =>
    intro x i a c hi h
    by_cases hc : chr s i = 93
    · rw [rdMembers_end hc] at h; simp at h
    · cases hm : rdMember s i with
      | inr pq =>
        obtain ⟨a', c'⟩ := pq
        rw [rdMembers_err hc hm] at h; simp only [Sum.inr.injEq, Prod.mk.injEq] at h; rw [← h.1]; exact rdMember_at hi hm
      | inl p => obtain ⟨y, n⟩ := p; rw [rdMembers_step hc hm] at h; exact ih (rdMember_bd hm).2 h
theorem rdRead_at {s : ByteArray} {i : Int} {a : Nat} {c : Int} (h : rdRead s i = .inr (a, c)) : a ≤ s.size := by
  unfold rdRead at h
  split at h
  · simp only [Sum.inr.injEq, Prod.mk.injEq] at h; omega
  · rename_i hr
    split at h
    · rename_i h1
      have hlt : i.toNat < s.size := chr_lt (by rw [h1]; omega)
      split at h
      · rename_i h2
        have hlt2 : i.toNat + 1 < s.size := chr_lt (by rw [h2]; omega)
        cases hm : rdMembers s (s.size + 1) 0#256 (i.toNat + 2) with
        | inr pq =>
          obtain ⟨a', c'⟩ := pq
          rw [hm] at h; simp only [rdTurn, Sum.inr.injEq, Prod.mk.injEq] at h; rw [← h.1]; exact rdMembers_at (by omega) hm
        | inl p => rw [hm] at h; simp [rdTurn] at h
      · cases hm : rdMembers s (s.size + 1) 0#256 (i.toNat + 1) with
        | inr pq =>
          obtain ⟨a', c'⟩ := pq
          rw [hm] at h; simp only [rdEnd, Sum.inr.injEq, Prod.mk.injEq] at h; rw [← h.1]; exact rdMembers_at (by omega) hm
        | inl p => rw [hm] at h; simp [rdEnd] at h
    · simp only [Sum.inr.injEq, Prod.mk.injEq] at h; omega
end Go.Proofs.YtkihfkcmcdiajaaGreatDoor

namespace Go.Proofs.YtkihfkcmcdiajaaGreatDoor
open Go.RowKit
theorem spN_eq {P : Int → Bool} {s : ByteArray} (hn : P (-1) = false) {i e : Nat} (hie : i ≤ e) (h : ∀ k, i ≤ k → k < e → P (chr s k) = true) (he : P (chr s e) = false) : spN P s i = e := by
  obtain ⟨h1, _, h3, h4⟩ := spN_spec P s hn _ i rfl
  by_cases q : spN P s i < e
  · rw [h _ h1 q] at h3; cases h3
  · by_cases q2 : e < spN P s i
    · rw [h4 e hie q2] at he; cases he
    · omega
/-- The bytes of two texts are the same, so many from two places on. -/
def Ag (s : ByteArray) (b : Nat) (s' : ByteArray) (b' : Nat) (m : Nat) : Prop := ∀ k, k < m → chr s' (b' + k) = chr s (b + k)
theorem Ag.at {s s' : ByteArray} {b b' m : Nat} (h : Ag s b s' b' m) {j j' : Nat} (hb : b ≤ j) (hj : j < b + m) (e : j' = b' + (j - b)) : chr s' j' = chr s j := by
  have := h (j - b) (by omega)
  rw [show b + (j - b) = j from by omega] at this
  rw [e]; exact this
theorem Ag.sub {s s' : ByteArray} {b b' m : Nat} (h : Ag s b s' b' m) (d : Nat) {m2 : Nat} (hm : d + m2 ≤ m) : Ag s (b + d) s' (b' + d) m2 := fun k hk => by
  have := h (d + k) (by omega)
  rw [Nat.add_assoc, Nat.add_assoc]; exact this
theorem run_move {P : Int → Bool} {s s' : ByteArray} (hn : P (-1) = false) {i i' m : Nat} (h : Ag s i s' i' m) (hs : spN P s i = i + m) (he : P (chr s' (i' + m)) = false) : spN P s' i' = i' + m := by
  obtain ⟨_, _, _, h4⟩ := spN_spec P s hn _ i rfl
  refine spN_eq hn (by omega) (fun k k1 k2 => ?_) he
  have := h (k - i') (by omega)
  rw [show i' + (k - i') = k from by omega] at this
  rw [this]
  exact h4 _ (by omega) (by omega)
theorem gapN_ge (s : ByteArray) (i : Nat) (h : i ≤ s.size) : i ≤ gapN s i := (gapN_bd h).1
theorem lnB_no {s : ByteArray} {j : Nat} (h : lnB (chr s j) = false) (hj : j < s.size) : chr s j = 10 := by
  have hc := chr_in hj
  unfold lnB at h
  rw [decide_eq_true (show 0 ≤ chr s j by rw [hc]; omega)] at h
  simp at h
  exact h
theorem gap_move (s s' : ByteArray) : ∀ (n m i i' : Nat), m ≤ n → Ag s i s' i' m → gapN s i = i + m → i + m ≤ s.size → (i + m = s.size → lnB (chr s' (i' + m)) = false) → gapN s' i' = gapN s' (i' + m) := by
  intro n
  induction n with
  | zero => intro m i i' hm _ _ _ _; rw [show m = 0 from by omega]; rfl
  | succ n ih =>
    intro m i i' hm ha hg hle hst
    by_cases hm0 : m = 0
    · rw [hm0]; rfl
    have hi : i < s.size := by omega
    have hc := chr_in hi
    have h0 := ha 0 (by omega)
    rw [Nat.add_zero, Nat.add_zero] at h0
    have hi' : i' < s'.size := chr_lt (by rw [h0, hc]; omega)
    have hu := gapN_unf s i
    rw [if_pos hi] at hu
    by_cases hn : chr s i = 45 ∧ chr s (i + 1) = 45
    · rw [if_pos hn] at hu
      have h1 := spN_next (P := lnB) (s := s) (i := i) (by decide) (by rw [hn.1]; rfl)
      have h2 := spN_next (P := lnB) (s := s) (i := i + 1) (by decide) (by rw [hn.2]; rfl)
      have h3 := spN_ge lnB s (by decide) (i + 1 + 1)
      have h4 := spN_le lnB s (by decide) i (by omega)
      obtain ⟨j, hj⟩ : ∃ j, j = spN lnB s i := ⟨_, rfl⟩
      have h5 := gapN_ge s (spN lnB s i) h4
      have hjm : j ≤ i + m := by omega
      have hstop : lnB (chr s j) = false := by rw [hj]; exact (spN_spec lnB s (by decide) _ i rfl).2.2.1
      have hst2 : lnB (chr s' (i' + (j - i))) = false := by
        by_cases q : j < i + m
        · rw [ha.at (by omega) q rfl]; exact hstop
        · have e1 : j = i + m := by omega
          by_cases q2 : j < s.size
          · exfalso
            have h10 := lnB_no hstop q2
            have hu2 := gapN_unf s j
            rw [if_pos q2, if_neg (by omega), if_pos (by omega)] at hu2
            have h6 := gapN_ge s (j + 1) (by omega)
            rw [← hj] at hu
            omega
          · rw [show j - i = m from by omega]; exact hst (by omega)
      have hm1 : spN lnB s' i' = i' + (j - i) := run_move (by decide) (fun k hk => ha k (by omega)) (by omega) hst2
      have e0 : chr s' i' = 45 := by rw [h0]; exact hn.1
      have e1 : chr s' (i' + 1) = 45 := by rw [ha 1 (by omega)]; exact hn.2
      rw [gapN_unf s' i', if_pos hi', if_pos ⟨e0, e1⟩, hm1]
      have := ih (m - (j - i)) j (i' + (j - i)) (by omega) (by
        have h7 := ha.sub (j - i) (m2 := m - (j - i)) (by omega)
        rwa [show i + (j - i) = j from by omega] at h7) (by rw [← hj] at hu; omega) (by omega) (fun q => by
        rw [show i' + (j - i) + (m - (j - i)) = i' + m from by omega]; exact hst (by omega))
      rw [this, show i' + (j - i) + (m - (j - i)) = i' + m from by omega]
    · rw [if_neg hn] at hu
      by_cases hb : chr s i = 9 ∨ chr s i = 10 ∨ chr s i = 13 ∨ chr s i = 32
      · rw [if_pos hb] at hu
        rw [gapN_unf s' i', if_pos hi', if_neg (by rw [h0]; omega), if_pos (by rw [h0]; exact hb)]
        have := ih (m - 1) (i + 1) (i' + 1) (by omega) (ha.sub 1 (by omega)) (by omega) (by omega) (fun q => by
          rw [show i' + 1 + (m - 1) = i' + m from by omega]; exact hst (by omega))
        rw [this, show i' + 1 + (m - 1) = i' + m from by omega]
      · rw [if_neg hb] at hu; omega
theorem text_same {s s' : ByteArray} {b b' m : Nat} (h : Ag s b s' b' m) (h1 : b + m ≤ s.size) (h2 : b' + m ≤ s'.size) : s'.extract b' (b' + m) = s.extract b (b + m) := by
  apply ByteArray.ext
  apply Array.ext
  · show (s'.extract b' (b' + m)).size = (s.extract b (b + m)).size
    rw [ByteArray.size_extract, ByteArray.size_extract]; omega
  · intro k hk1 hk2
    have hk1' : k < (s'.extract b' (b' + m)).size := hk1
    have hk2' : k < (s.extract b (b + m)).size := hk2
    have hm : k < m := by rw [ByteArray.size_extract] at hk2'; omega
    have e1 := chr_ext (s := s') (a := b') (b := b' + m) (k := k) (by omega) h2
    have e2 := chr_ext (s := s) (a := b) (b := b + m) (k := k) (by omega) h1
    rw [h k hm, ← e2, chr_in hk1', chr_in hk2'] at e1
    exact (UInt8.toNat_inj.1 (Int.ofNat_inj.1 e1) : (s'.extract b' (b' + m))[k] = (s.extract b (b + m))[k])
end Go.Proofs.YtkihfkcmcdiajaaGreatDoor

namespace Go.Proofs.YtkihfkcmcdiajaaGreatDoor
open Go.RowKit
/-- A token at another place. -/
def mvT (t : Tk) (b' m : Nat) : Tk := { t with fr := b', en := (b' + m : Nat) }
theorem esc_move {s s' : ByteArray} {i i' m c n : Nat} (ha : Ag s i s' i' m) (h : escT s i = some (c, n)) (hn : n ≤ i + m) : escT s' i' = some (c, i' + (n - i)) := by
  have h2 := escT_lt h
  unfold escT at h ⊢
  have e1 : chr s' (i' + 1) = chr s (i + 1) := by
    by_cases q : 1 < m
    · exact ha 1 q
    · exfalso
      split at h; cases h; omega
      split at h; cases h; omega
      split at h; cases h; omega
      split at h; cases h; omega
      split at h; cases h; omega
      cases h
  rw [e1]
  split at h
  · next q => rw [if_pos q]; cases h; rw [show i + 2 - i = 2 from by omega]
  next q1 =>
  rw [if_neg q1]
  split at h
  · next q => rw [if_pos q]; cases h; rw [show i + 2 - i = 2 from by omega]
  next q2 =>
  rw [if_neg q2]
  split at h
  · next q => rw [if_pos q]; cases h; rw [show i + 2 - i = 2 from by omega]
  next q3 =>
  rw [if_neg q3]
  split at h
  · next q => rw [if_pos q]; cases h; rw [show i + 2 - i = 2 from by omega]
  next q4 =>
  rw [if_neg q4]
  split at h
  · next q =>
    cases h
    rw [ha 2 (by omega), ha 3 (by omega), if_pos q, show i + 4 - i = 4 from by omega]
  · cases h
theorem lit_move (s s' : ByteArray) (q : Int) (b b' : Nat) (hq : 0 ≤ q) : ∀ (f f' : Nat) (out : List Int) (i i' m : Nat) (t : Tk) (e : Nat), litGo s q b f out i = .inl t → t.en = e → e = i + m → Ag s i s' i' m → m ≤ f' → litGo s' q b' f' out i' = .inl { t with fr := b', en := (i' + m : Nat) } := by
  intro f
  induction f with
  | zero => intro f' out i i' m t e h; rw [litGo] at h; cases h
  | succ f ih =>
    intro f' out i i' m t e h he hm ha hf
    obtain ⟨e2, x1, x2, x3⟩ := litGo_en s q b hq _ _ _ _ h
    have : e2 = e := by omega
    subst this
    obtain ⟨f', rfl⟩ : ∃ g, f' = g + 1 := ⟨f' - 1, by omega⟩
    have h0 := ha 0 (by omega)
    rw [Nat.add_zero, Nat.add_zero] at h0
    rw [litGo] at h ⊢
    rw [h0]
    split at h
    · cases h
    next h1 =>
    rw [if_neg h1]
    split at h
    · next h2 =>
      rw [if_pos h2]
      split at h
      · cases h
      next h3 =>
      rw [if_neg h3]
      cases h
      have : m = 1 := by
        have he : ((i + 1 : Nat) : Int) = ((i + m : Nat) : Int) := by rw [← hm, ← he]; rfl
        omega
      subst this
      rfl
    next h2 =>
    rw [if_neg h2]
    split at h
    · cases h
    next h3 =>
    rw [if_neg h3]
    split at h
    · next h4 =>
      rw [if_pos h4]
      have h5 := litGo_en s q b hq _ _ _ _ h
      obtain ⟨e3, y1, y2, y3⟩ := h5
      have := ih f' (out ++ [chr s i]) (i + 1) (i' + 1) (m - 1) t e2 h he (by omega) (ha.sub 1 (by omega)) (by omega)
      rw [this, show i' + 1 + (m - 1) = i' + m from by omega]
    next h4 =>
    rw [if_neg h4]
    cases hx : escT s i with
    | none => rw [hx] at h; cases h
    | some p =>
      obtain ⟨c, n⟩ := p
      rw [hx] at h
      have h5 := escT_lt hx
      obtain ⟨e3, y1, y2, y3⟩ := litGo_en s q b hq _ _ _ _ h
      rw [esc_move ha hx (by omega)]
      have := ih f' (out ++ [(c : Int)]) n (i' + (n - i)) (m - (n - i)) t e2 h he (by omega) (by
        have h7 := ha.sub (n - i) (m2 := m - (n - i)) (by omega)
        rwa [show i + (n - i) = n from by omega] at h7) (by omega)
      show litGo s' q b' f' (out ++ [(c : Int)]) (i' + (n - i)) = _
      rw [this, show i' + (n - i) + (m - (n - i)) = i' + m from by omega]
theorem item_move {s s' : ByteArray} {i i' m c n : Nat} (ha : Ag s i s' i' m) (h : rdItem s i = some (c, n)) (hn : n ≤ i + m) : rdItem s' i' = some (c, i' + (n - i)) := by
  have hb := rdItem_bd h
  have h0 := ha 0 (by omega)
  rw [Nat.add_zero, Nat.add_zero] at h0
  unfold rdItem at h ⊢
  rw [h0]
  split at h
  · next q =>
    rw [if_pos q]
    unfold rdEsc at h ⊢
    have hm : 2 ≤ n - i := by
      split at h; cases h; omega
      split at h; cases h; omega
      split at h; cases h; omega
      split at h
      · unfold rdHex at h
        split at h
        · cases h; omega
        · cases h
      split at h
      · cases h; omega
      · cases h
    rw [ha 1 (by omega)]
    split at h
    · next q => rw [if_pos q]; cases h; rw [show i + 2 - i = 2 from by omega]
    next q1 =>
    rw [if_neg q1]
    split at h
    · next q => rw [if_pos q]; cases h; rw [show i + 2 - i = 2 from by omega]
    next q2 =>
    rw [if_neg q2]
    split at h
    · next q => rw [if_pos q]; cases h; rw [show i + 2 - i = 2 from by omega]
    next q3 =>
    rw [if_neg q3]
    split at h
    · next q =>
      rw [if_pos q]
      unfold rdHex at h ⊢
      split at h
      · next q5 =>
        cases h
        rw [ha 2 (by omega), ha 3 (by omega), if_pos q5, show i + 4 - i = 4 from by omega]
      · cases h
    next q4 =>
    rw [if_neg q4]
    split at h
    · next q5 => rw [if_pos q5]; cases h; rw [show i + 2 - i = 2 from by omega]
    · cases h
  · next q =>
    rw [if_neg q]
    split at h
    · cases h
    · next q2 => rw [if_neg q2]; cases h; rw [show i + 1 - i = 1 from by omega]
theorem member_move {s s' : ByteArray} {i i' m n : Nat} {y : BitVec 256} (ha : Ag s i s' i' m) (h : rdMember s i = .inl (y, n)) (hn : n < i + m) : rdMember s' i' = .inl (y, i' + (n - i)) := by
  have hb := rdMember_bd h
  have h0 := ha 0 (by omega)
  rw [Nat.add_zero, Nat.add_zero] at h0
  unfold rdMember at h ⊢
  rw [h0]
  split at h
  · next q =>
    rw [if_pos q]
    unfold rdClass at h ⊢
    split at h
    · next q2 =>
      cases h
      have e1 := ha 1 (by omega)
      have hlt : i' + 1 < s'.size := chr_lt (by rw [e1, chr_in q2.1]; omega)
      rw [e1, if_pos ⟨hlt, q2.2⟩, show i + 2 - i = 2 from by omega]
    · cases h
  · next q =>
    rw [if_neg q]
    cases hi : rdItem s i with
    | none => rw [hi] at h; cases h
    | some p =>
      obtain ⟨lo, n1⟩ := p
      rw [hi] at h
      have hb1 := rdItem_bd hi
      dsimp only at h
      split at h
      · next q45 =>
        cases hj : rdItem s (n1 + 1) with
        | none => rw [hj] at h; cases h
        | some p =>
          obtain ⟨hi2, e⟩ := p
          rw [hj] at h
          dsimp only at h
          have hb2 := rdItem_bd hj
          split at h
          · cases h
          · next q6 =>
            cases h
            rw [item_move ha hi (by omega)]
            dsimp only
            rw [ha.at (j := n1) (by omega) (by omega) rfl, if_pos q45]
            have := item_move (i' := i' + (n1 - i) + 1) (m := i + m - (n1 + 1)) (by
              have h7 := ha.sub (n1 + 1 - i) (m2 := i + m - (n1 + 1)) (by omega)
              rwa [show i + (n1 + 1 - i) = n1 + 1 from by omega, show i' + (n1 + 1 - i) = i' + (n1 - i) + 1 from by omega] at h7) hj (by omega)
            rw [this]
            dsimp only
            rw [if_neg q6, show i' + (n1 - i) + 1 + (n - (n1 + 1)) = i' + (n - i) from by omega]
      · next q45 =>
        cases h
        rw [item_move ha hi (by omega)]
        dsimp only
        rw [ha.at (j := n) (by omega) (by omega) rfl, if_neg q45]
theorem members_move (s s' : ByteArray) : ∀ (f f' : Nat) (x y : BitVec 256) (i i' m n : Nat), rdMembers s f x i = .inl (y, n) → Ag s i s' i' m → n < i + m → n - i < f' → rdMembers s' f' x i' = .inl (y, i' + (n - i)) := by
  intro f
  induction f with
  | zero => intro f' x y i i' m n h; rw [rdMembers] at h; cases h
  | succ f ih =>
    intro f' x y i i' m n h ha hn hf
    have hok := rdMembers_ok h
    obtain ⟨f', rfl⟩ : ∃ g, f' = g + 1 := ⟨f' - 1, by omega⟩
    have h0 := ha 0 (by omega)
    rw [Nat.add_zero, Nat.add_zero] at h0
    rw [rdMembers] at h ⊢
    rw [h0]
    split at h
    · next q => cases h; rw [if_pos q, Nat.sub_self, Nat.add_zero]
    · next q =>
      rw [if_neg q]
      cases hm : rdMember s i with
      | inr p => obtain ⟨a, c⟩ := p; rw [hm] at h; cases h
      | inl p =>
        obtain ⟨z, k⟩ := p
        rw [hm] at h
        dsimp only at h
        have hb := rdMember_bd hm
        have hok2 := rdMembers_ok h
        rw [member_move ha hm (by omega)]
        dsimp only
        have := ih f' (x ||| z) y k (i' + (k - i)) (i + m - k) n h (by
          have h7 := ha.sub (k - i) (m2 := i + m - k) (by omega)
          rwa [show i + (k - i) = k from by omega] at h7) (by omega) (by omega)
        rw [this, show i' + (k - i) + (n - k) = i' + (n - i) from by omega]
end Go.Proofs.YtkihfkcmcdiajaaGreatDoor

namespace Go.Proofs.YtkihfkcmcdiajaaGreatDoor
open Go.RowKit
/-- The sign that two bytes begin. -/
def sgC (c0 c1 : Int) : Int × List UInt8 :=
  if c0 = 37 then (if c1 = 101 then (29, [37, 101]) else if c1 = 102 then (30, [37, 102]) else (0, []))
  else if c0 = 94 then (if c1 = 43 then (14, [94, 43]) else if c1 = 45 then (15, [94, 45]) else (13, [94]))
  else if c0 = 60 then (if c1 = 45 then (6, [60, 45]) else (0, []))
  else if c0 = 45 then (if c1 = 62 then (27, [45, 62]) else (0, []))
  else if c0 = 47 then (7, [47])
  else if c0 = 38 then (8, [38])
  else if c0 = 33 then (9, [33])
  else if c0 = 63 then (10, [63])
  else if c0 = 42 then (11, [42])
  else if c0 = 43 then (12, [43])
  else if c0 = 40 then (16, [40])
  else if c0 = 41 then (17, [41])
  else if c0 = 46 then (18, [46])
  else if c0 = 123 then (if c1 = 58 then (21, [123, 58]) else if c1 = 124 then (23, [123, 124]) else if c1 = 126 then (25, [123, 126]) else (19, [123]))
  else if c0 = 58 then (if c1 = 125 then (22, [58, 125]) else (0, []))
  else if c0 = 124 then (if c1 = 125 then (24, [124, 125]) else (0, []))
  else if c0 = 126 then (if c1 = 125 then (26, [126, 125]) else (0, []))
  else if c0 = 125 then (20, [125]) else (0, [])
def pfC (c0 c1 : Int) : List UInt8 → Bool
  | [] => true
  | [x] => c0 == (x.toNat : Int)
  | x :: y :: _ => c0 == (x.toNat : Int) && c1 == (y.toNat : Int)
def sgGC (c0 c1 : Int) : List (Int × List UInt8) → Int × List UInt8
  | [] => (0, [])
  | p :: l => if pfC c0 c1 p.2 = true then p else sgGC c0 c1 l
theorem pfx_C (s : ByteArray) (b : Nat) (l : List UInt8) (h : l.length ≤ 2) : pfx s b l = pfC (chr s b) (chr s (b + 1)) l := by
  match l, h with
  | [], _ => rfl
  | [x], _ => show (chr s b == (x.toNat : Int) && true) = _; rw [Bool.and_true]; rfl
  | [x, y], _ => show (chr s b == (x.toNat : Int) && (chr s (b + 1) == (y.toNat : Int) && true)) = _; rw [Bool.and_true]; rfl
theorem sgGo_C (s : ByteArray) (b : Nat) : ∀ l : List (Int × List UInt8), (∀ p ∈ l, p.2.length ≤ 2) → sgGo s b l = sgGC (chr s b) (chr s (b + 1)) l := by
  intro l
  induction l with
  | nil => intro _; rfl
  | cons p l ih =>
    intro h
    rw [sgGo, sgGC, pfx_C s b p.2 (h p (List.mem_cons_self ..)), ih (fun q hq => h q (List.mem_cons_of_mem _ hq))]
theorem sgGC_C (c0 c1 : Int) : sgGC c0 c1 sgTab = sgC c0 c1 := by
  unfold sgC
  by_cases h37 : c0 = 37
  · subst h37; simp [sgTab, sgGC, pfC]
    try (by_cases a1 : c1 = 101 <;> by_cases a2 : c1 = 102 <;> by_cases a3 : c1 = 43 <;> by_cases a4 : c1 = 45 <;> by_cases a5 : c1 = 62 <;> by_cases a6 : c1 = 58 <;> by_cases a7 : c1 = 124 <;> by_cases a8 : c1 = 126 <;> by_cases a9 : c1 = 125 <;> simp [*])
  by_cases h94 : c0 = 94
  · subst h94; simp [sgTab, sgGC, pfC]
    try (by_cases a1 : c1 = 101 <;> by_cases a2 : c1 = 102 <;> by_cases a3 : c1 = 43 <;> by_cases a4 : c1 = 45 <;> by_cases a5 : c1 = 62 <;> by_cases a6 : c1 = 58 <;> by_cases a7 : c1 = 124 <;> by_cases a8 : c1 = 126 <;> by_cases a9 : c1 = 125 <;> simp [*])
  by_cases h60 : c0 = 60
  · subst h60; simp [sgTab, sgGC, pfC]
    try (by_cases a1 : c1 = 101 <;> by_cases a2 : c1 = 102 <;> by_cases a3 : c1 = 43 <;> by_cases a4 : c1 = 45 <;> by_cases a5 : c1 = 62 <;> by_cases a6 : c1 = 58 <;> by_cases a7 : c1 = 124 <;> by_cases a8 : c1 = 126 <;> by_cases a9 : c1 = 125 <;> simp [*])
  by_cases h45 : c0 = 45
  · subst h45; simp [sgTab, sgGC, pfC]
    try (by_cases a1 : c1 = 101 <;> by_cases a2 : c1 = 102 <;> by_cases a3 : c1 = 43 <;> by_cases a4 : c1 = 45 <;> by_cases a5 : c1 = 62 <;> by_cases a6 : c1 = 58 <;> by_cases a7 : c1 = 124 <;> by_cases a8 : c1 = 126 <;> by_cases a9 : c1 = 125 <;> simp [*])
  by_cases h47 : c0 = 47
  · subst h47; simp [sgTab, sgGC, pfC]
    try (by_cases a1 : c1 = 101 <;> by_cases a2 : c1 = 102 <;> by_cases a3 : c1 = 43 <;> by_cases a4 : c1 = 45 <;> by_cases a5 : c1 = 62 <;> by_cases a6 : c1 = 58 <;> by_cases a7 : c1 = 124 <;> by_cases a8 : c1 = 126 <;> by_cases a9 : c1 = 125 <;> simp [*])
  by_cases h38 : c0 = 38
  · subst h38; simp [sgTab, sgGC, pfC]
    try (by_cases a1 : c1 = 101 <;> by_cases a2 : c1 = 102 <;> by_cases a3 : c1 = 43 <;> by_cases a4 : c1 = 45 <;> by_cases a5 : c1 = 62 <;> by_cases a6 : c1 = 58 <;> by_cases a7 : c1 = 124 <;> by_cases a8 : c1 = 126 <;> by_cases a9 : c1 = 125 <;> simp [*])
  by_cases h33 : c0 = 33
  · subst h33; simp [sgTab, sgGC, pfC]
    try (by_cases a1 : c1 = 101 <;> by_cases a2 : c1 = 102 <;> by_cases a3 : c1 = 43 <;> by_cases a4 : c1 = 45 <;> by_cases a5 : c1 = 62 <;> by_cases a6 : c1 = 58 <;> by_cases a7 : c1 = 124 <;> by_cases a8 : c1 = 126 <;> by_cases a9 : c1 = 125 <;> simp [*])
  by_cases h63 : c0 = 63
  · subst h63; simp [sgTab, sgGC, pfC]
    try (by_cases a1 : c1 = 101 <;> by_cases a2 : c1 = 102 <;> by_cases a3 : c1 = 43 <;> by_cases a4 : c1 = 45 <;> by_cases a5 : c1 = 62 <;> by_cases a6 : c1 = 58 <;> by_cases a7 : c1 = 124 <;> by_cases a8 : c1 = 126 <;> by_cases a9 : c1 = 125 <;> simp [*])
  by_cases h42 : c0 = 42
  · subst h42; simp [sgTab, sgGC, pfC]
    try (by_cases a1 : c1 = 101 <;> by_cases a2 : c1 = 102 <;> by_cases a3 : c1 = 43 <;> by_cases a4 : c1 = 45 <;> by_cases a5 : c1 = 62 <;> by_cases a6 : c1 = 58 <;> by_cases a7 : c1 = 124 <;> by_cases a8 : c1 = 126 <;> by_cases a9 : c1 = 125 <;> simp [*])
  by_cases h43 : c0 = 43
  · subst h43; simp [sgTab, sgGC, pfC]
    try (by_cases a1 : c1 = 101 <;> by_cases a2 : c1 = 102 <;> by_cases a3 : c1 = 43 <;> by_cases a4 : c1 = 45 <;> by_cases a5 : c1 = 62 <;> by_cases a6 : c1 = 58 <;> by_cases a7 : c1 = 124 <;> by_cases a8 : c1 = 126 <;> by_cases a9 : c1 = 125 <;> simp [*])
  by_cases h40 : c0 = 40
  · subst h40; simp [sgTab, sgGC, pfC]
    try (by_cases a1 : c1 = 101 <;> by_cases a2 : c1 = 102 <;> by_cases a3 : c1 = 43 <;> by_cases a4 : c1 = 45 <;> by_cases a5 : c1 = 62 <;> by_cases a6 : c1 = 58 <;> by_cases a7 : c1 = 124 <;> by_cases a8 : c1 = 126 <;> by_cases a9 : c1 = 125 <;> simp [*])
  by_cases h41 : c0 = 41
  · subst h41; simp [sgTab, sgGC, pfC]
    try (by_cases a1 : c1 = 101 <;> by_cases a2 : c1 = 102 <;> by_cases a3 : c1 = 43 <;> by_cases a4 : c1 = 45 <;> by_cases a5 : c1 = 62 <;> by_cases a6 : c1 = 58 <;> by_cases a7 : c1 = 124 <;> by_cases a8 : c1 = 126 <;> by_cases a9 : c1 = 125 <;> simp [*])
  by_cases h46 : c0 = 46
  · subst h46; simp [sgTab, sgGC, pfC]
    try (by_cases a1 : c1 = 101 <;> by_cases a2 : c1 = 102 <;> by_cases a3 : c1 = 43 <;> by_cases a4 : c1 = 45 <;> by_cases a5 : c1 = 62 <;> by_cases a6 : c1 = 58 <;> by_cases a7 : c1 = 124 <;> by_cases a8 : c1 = 126 <;> by_cases a9 : c1 = 125 <;> simp [*])
  by_cases h123 : c0 = 123
  · subst h123; simp [sgTab, sgGC, pfC]
    try (by_cases a1 : c1 = 101 <;> by_cases a2 : c1 = 102 <;> by_cases a3 : c1 = 43 <;> by_cases a4 : c1 = 45 <;> by_cases a5 : c1 = 62 <;> by_cases a6 : c1 = 58 <;> by_cases a7 : c1 = 124 <;> by_cases a8 : c1 = 126 <;> by_cases a9 : c1 = 125 <;> simp [*])
  by_cases h58 : c0 = 58
  · subst h58; simp [sgTab, sgGC, pfC]
    try (by_cases a1 : c1 = 101 <;> by_cases a2 : c1 = 102 <;> by_cases a3 : c1 = 43 <;> by_cases a4 : c1 = 45 <;> by_cases a5 : c1 = 62 <;> by_cases a6 : c1 = 58 <;> by_cases a7 : c1 = 124 <;> by_cases a8 : c1 = 126 <;> by_cases a9 : c1 = 125 <;> simp [*])
  by_cases h124 : c0 = 124
  · subst h124; simp [sgTab, sgGC, pfC]
    try (by_cases a1 : c1 = 101 <;> by_cases a2 : c1 = 102 <;> by_cases a3 : c1 = 43 <;> by_cases a4 : c1 = 45 <;> by_cases a5 : c1 = 62 <;> by_cases a6 : c1 = 58 <;> by_cases a7 : c1 = 124 <;> by_cases a8 : c1 = 126 <;> by_cases a9 : c1 = 125 <;> simp [*])
  by_cases h126 : c0 = 126
  · subst h126; simp [sgTab, sgGC, pfC]
    try (by_cases a1 : c1 = 101 <;> by_cases a2 : c1 = 102 <;> by_cases a3 : c1 = 43 <;> by_cases a4 : c1 = 45 <;> by_cases a5 : c1 = 62 <;> by_cases a6 : c1 = 58 <;> by_cases a7 : c1 = 124 <;> by_cases a8 : c1 = 126 <;> by_cases a9 : c1 = 125 <;> simp [*])
  by_cases h125 : c0 = 125
  · subst h125; simp [sgTab, sgGC, pfC]
    try (by_cases a1 : c1 = 101 <;> by_cases a2 : c1 = 102 <;> by_cases a3 : c1 = 43 <;> by_cases a4 : c1 = 45 <;> by_cases a5 : c1 = 62 <;> by_cases a6 : c1 = 58 <;> by_cases a7 : c1 = 124 <;> by_cases a8 : c1 = 126 <;> by_cases a9 : c1 = 125 <;> simp [*])
  simp [sgTab, sgGC, pfC, *]
theorem sgAt_C (s : ByteArray) (b : Nat) : sgAt s b = sgC (chr s b) (chr s (b + 1)) := by
  rw [← sgGC_C]
  exact sgGo_C s b sgTab (by decide)
end Go.Proofs.YtkihfkcmcdiajaaGreatDoor
