/- DERIVED. Plain mathematics and walks, laid together (19). -/
import Derived.Test.YtkihfkcmcdiajaaGreatDoorCards
import Derived.Test.YtkihfkcmcdiajaaGreatDoorTie
import Derived.WalkKit
import Derived.ProofKit
import Derived.OpenShut
import Derived.ShutString
import Derived.ChangeOld
import Derived.ChangeSame
import Derived.SizedLaws
import Derived.FnData
import Derived.Deep.DeepHandedRow
import Derived.Lib.LaidTab
import Derived.Lib.ConvBytes
import Derived.Lib.AtoiErrMem
import Derived.Lib.UnsafeStr
import Derived.Lib.AppendStr
import Derived.Test.YtkihfkcmcdiajaaGreatDoorPk18
namespace Go.Proofs.YtkihfkcmcdiajaaGreatDoor.N
open Go.RowKit
/-- The laid tables. -/
structure GW (W : World) : Prop where
  s : SG W
  v : R.VB W
theorem GW.later {W W' : World} (h : GW W) (hb : Below W.heap.size W W') : GW W' := ⟨h.s.later hb, h.v.below hb h.v.lt⟩
theorem okE_of {s : ByteArray} {l : List Tk} (h : lexR (oneP s) s = .inl l) : OkE (mkE l) := by
  have hr := lex_rgt h
  refine ⟨lex_len h, rfl, rfl, fun t ht hk => ?_, fun t ht => ?_, fun t ht hk => ?_⟩
  · have h1 := (hr t ht).r
    have h2 := (hr t ht).b
    unfold riF nbF seF at h1
    rw [if_pos hk, if_neg (by omega), if_neg (by omega), if_pos hk] at h1
    simp only [Bool.and_eq_true, decide_eq_true_eq] at h1
    omega
  · have h1 := (hr t ht).r
    unfold riF txF at h1
    simp only [Bool.and_eq_true, decide_eq_true_eq] at h1
    have h2 := h1.1.1.2
    have emp : ∀ {x : ByteArray}, (x.toList == []) = true → x.size ≤ 65536 := fun {x} hx => by
      rw [beq_iff_eq, ByteArray.toList_eq] at hx
      have : x.data.toList.length = 0 := by rw [hx]; rfl
      have h3 : x.size = x.data.toList.length := by simp
      omega
    split at h2
    · have := isNm_len h2; omega
    · split at h2
      · rw [Bool.or_eq_true] at h2
        rcases h2 with h2 | h2
        · exact emp h2
        · have := isNm_len h2; omega
      · split at h2
        · have := of_decide_eq_true h2; omega
        · split at h2
          · have := beq_iff_eq.1 h2; omega
          · exact emp h2
  · have h1 := (hr t ht).r
    unfold riF nbF at h1
    rw [if_neg (by omega)] at h1
    simp only [Bool.and_eq_true, decide_eq_true_eq] at h1
    have h2 := h1.1.2
    rcases hk with hk | hk | hk <;> rw [hk] at h2 <;> (have h3 : t.nn ≤ 0 := h2.2; omega)
set_option maxRecDepth 100000 in
set_option maxHeartbeats 8000000 in
theorem newReader_no (s : ByteArray) (w : World) (hg : GW w) (q : Nat × Int) (hq : lexR (oneP s) s = .inr q) (hne : ¬ q.2 = 0) : Calls Tryz.prog 22 #[.string s] w fun e w' => e = pnc q.1 q.2 ∧ Below w.heap.size w w' := by
  have HL : Hid (∀ _ : Unit, Calls Tryz.prog 44 #[.string s] w fun e w' => e = .returned (.tuple #[.slice none 0 0, .agg #[.int .i64 q.1, .int .i64 q.2]]) ∧ Below w.heap.size w w') := fun _ => by
    have := lexP_any s w hg.s
    rw [hq] at this
    exact this
  have HU : Hid (∀ a c W, Calls Tryz.prog 45 #[.int .i64 a, .int .i64 c] W fun e W' => e = pnc a c ∧ W' = W) := fun a c W => giveUp_any a c W
  have t1 : (q.2 != 0) = true := by simpa using hne
  clear hg hq hne
  go_enter Tryz.func22, Tryz.ntmps22
  go_wp2_with fail
  refine (HL.out ()).mono ?_
  rintro e w1 ⟨rfl, hb⟩
  have HB := (show Hid (Below w.heap.size w w1) from hb)
  clear hb HL
  go_wp2_with fail
  refine (HU.out _ _ _).mono ?_
  rintro e w2 ⟨rfl, rfl⟩
  exact post_panic rfl ⟨rfl, HB.out.alloc HB.out.size _⟩
set_option maxRecDepth 100000 in
set_option maxHeartbeats 8000000 in
theorem newReader_ok (s : ByteArray) (w : World) (hg : GW w) (l : List Tk) (hl : lexR (oneP s) s = .inl l) : Calls Tryz.prog 22 #[.string s] w fun e w' => ∃ b tv, e = .returned (.pointer (some ⟨b, 0, none⟩)) ∧ RS (mkE l) s.size w w' b tv 0 0 (.slice none 0 0) [] := by
  have hlen := lex_len hl
  obtain ⟨i0, hinf, hz0, hz1, hz2⟩ := info_parts Tryz.info36
  have HL : Hid (∀ _ : Unit, Calls Tryz.prog 44 #[.string s] w fun e w' => (∃ v, e = .returned (.tuple #[v, .agg #[.int .i64 0, .int .i64 0]]) ∧ w'.ownsRow w.heap.size 79 9 v l.length (tkc l)) ∧ Below w.heap.size w w') := fun _ => by
    have := lexP_any s w hg.s
    rw [hl] at this
    exact this
  have HTk := (show Hid (toks (mkE l) s.size = l ++ [enT s.size]) from rfl)
  clear hg hl
  go_enter Tryz.func22, Tryz.ntmps22
  go_wp2_with fail
  refine (HL.out ()).mono ?_
  rintro e w1 ⟨⟨v, rfl, ho⟩, hb⟩
  have HB := (show Hid (Below w.heap.size w w1) from hb)
  clear hb HL
  have hO2 := ho.alloc (.cells #[.int .i64 0, .int .i64 0] 27)
  have hs1 := HB.out.size
  go_wp2_with (at_builtin; refine wpList_append_lies _ rfl _ _ 42 rfl w.heap.size 79 i0 (tkG tk0) 9 80 Tryz.underlying42 hinf hz0 hz1 hz2 rfl (by decide) _ _ _ rfl (hO2.alloc _) ⟨w1.heap.size + 1, 0, none⟩ 1 1 (tkV (enT s.size)) rfl rfl ?c1 (tk_one _) (by decide) ?c3 ?c4 ?c5 (w1.heap.size + 1 + 1) (by simp) ?_)
  case c1 =>
    have hh := heap_alloc_new (w1.alloc (.cells #[.int .i64 0, .int .i64 0] 27)) (.cells (tkC (enT s.size)) 79)
    rw [World.size_alloc] at hh
    exact World.news_of_block (cs := tkC (enT s.size)) (t := 79) (fr := (0, 0)) hh
  case c3 => unfold maxLen; omega
  case c4 => omega
  case c5 => rw [World.size_alloc, World.size_alloc]; omega
  intro g cap w4 hown hgrow hat hlt4
  have hbl : Below w.heap.size w w4 := ((HB.out.alloc hs1 _).alloc (by rw [World.size_alloc]; omega) _).grown hgrow (by rw [World.size_alloc, World.size_alloc]; omega) (fun k e => (ho.lt k e).1)
  have HR := (show Hid (∃ b tv, w4.heap.size = b ∧ Value.slice (some ⟨g, 0, none⟩) (l.length + 1) cap = tv ∧ RS (mkE l) s.size w (w4.alloc (.cells #[.slice (some ⟨g, 0, none⟩) (l.length + 1) cap, .int .i64 0, .int .i64 0, .slice none 0 0] 97)) b tv 0 0 (.slice none 0 0) []) from
    ⟨_, _, rfl, rfl, ⟨hbl.alloc hbl.size _, hbl.size, ⟨heap_alloc_new w4 _⟩, by
      have h1 := hown.alloc (.cells #[.slice (some ⟨g, 0, none⟩) (l.length + 1) cap, .int .i64 0, .int .i64 0, .slice none 0 0] 97)
      rw [HTk.out, List.length_append, List.length_singleton, tkc_append, tkc_one]
      exact h1, World.ownsRow_nil _ _ _ _, Nat.zero_le _, Nat.zero_le _⟩⟩)
  clear hown hgrow hat hlt4 hbl ho hO2
  go_wp2_with fail
  go_ret
  obtain ⟨b, tv, h1, h2, h3⟩ := HR.out
  exact ⟨b, tv, by rw [← h1]; rfl, h3⟩
set_option maxRecDepth 100000 in
set_option maxHeartbeats 8000000 in
theorem body_no {E : PE} (hE : OkE E) {z : Nat} {w0 : World} (hv : R.VB w0) {b : Nat} {tv : Value} {i : Nat} {W : World} {v : Value} {L : List Nd} (h : RS E z w0 W b tv i 0 v L) (q : Nat × Int) (hq : exN E i = .inr q) : Calls Tryz.prog 49 #[.pointer (some ⟨b, 0, none⟩)] W fun e W' => e = pnc (plA E z q.1) q.2 ∧ Below w0.heap.size w0 W' := by
  have hi := h.hi
  have H1 := (show Hid (RS E z w0 (W.setCell ⟨b, 3, none⟩ (.slice none 0 0)) b tv i 0 (.slice none 0 0) []) from h.s3 (World.ownsRow_nil _ _ _ _))
  have HX : Hid (∀ W, RS E z w0 W b tv i 0 (.slice none 0 0) [] → Calls Tryz.prog 81 #[.pointer (some ⟨b, 0, none⟩)] W fun e W' => e = pnc (plA E z q.1) q.2 ∧ Below w0.heap.size w0 W') := fun W h => by
    have := exp_all hE hv (z := z) (b := b) (tv := tv) (d := 0) hi W _ _ h (Nat.zero_le _)
    rw [gN_ex, hq] at this
    exact this
  obtain ⟨k0, k1, k2, k3⟩ := h.x.cl
  have f3 := h.x.fz 3
  clear h hE hv hq
  go_enter Tryz.func49, Tryz.ntmps49
  go_wp2_with fail
  refine (HX.out _ H1.out).mono ?_
  rintro e w1 ⟨rfl, hb⟩
  exact post_panic rfl ⟨rfl, hb⟩
set_option maxRecDepth 100000 in
set_option maxHeartbeats 8000000 in
theorem body_ok {E : PE} (hE : OkE E) {z : Nat} {w0 : World} (hv : R.VB w0) {b : Nat} {tv : Value} {i : Nat} {W : World} {v : Value} {L : List Nd} (h : RS E z w0 W b tv i 0 v L) (a : Nat) (ns : List Nd) (hq : exN E i = .inl (a, ns)) : Calls Tryz.prog 49 #[.pointer (some ⟨b, 0, none⟩)] W fun e W' => ∃ v', e = .returned v' ∧ RS E z w0 W' b tv a 0 v' ns ∧ Fr W W' b (.slice none 0 0) v' := by
  have hi := h.hi
  have H1 := (show Hid (RS E z w0 (W.setCell ⟨b, 3, none⟩ (.slice none 0 0)) b tv i 0 (.slice none 0 0) []) from h.s3 (World.ownsRow_nil _ _ _ _))
  have HF1 := (show Hid (Fr W (W.setCell ⟨b, 3, none⟩ (.slice none 0 0)) b (.slice none 0 0) (.slice none 0 0)) from Fr.set _ _ _ _ _)
  have HX : Hid (∀ W, RS E z w0 W b tv i 0 (.slice none 0 0) [] → Calls Tryz.prog 81 #[.pointer (some ⟨b, 0, none⟩)] W fun e W' => e = .returned (.tuple #[]) ∧ ∃ v', RS E z w0 W' b tv a 0 v' ns ∧ Fr W W' b (.slice none 0 0) v') := fun W h => by
    have := exp_all hE hv (z := z) (b := b) (tv := tv) (d := 0) hi W _ _ h (Nat.zero_le _)
    rw [gN_ex, hq] at this
    exact this
  obtain ⟨k0, k1, k2, k3⟩ := h.x.cl
  have f3 := h.x.fz 3
  clear h hE hv hq
  go_enter Tryz.func49, Tryz.ntmps49
  go_wp2_with fail
  refine (HX.out _ H1.out).mono ?_
  rintro e w1 ⟨rfl, v1, h1, hf1⟩
  have H2 := (show Hid _ from h1)
  have HF2 := (show Hid (Fr W w1 b (.slice none 0 0) v1) from HF1.out.trans hf1)
  clear h1 hf1 H1 HF1 HX k0 k1 k2 k3 f3
  obtain ⟨k0, k1, k2, k3⟩ := H2.out.x.cl
  go_wp2_with fail
  go_ret
  exact ⟨v1, rfl, H2.out, HF2.out⟩
end Go.Proofs.YtkihfkcmcdiajaaGreatDoor.N

namespace Go.Proofs.YtkihfkcmcdiajaaGreatDoor
open Go.ChangeShapes Go.WideShapes Go.ChangeAt Go.RowKit
theorem own : ownKnob Tryz.prog.godebug = none := by kernel_rfl
theorem gTab : Tryz.prog.globalNamed "harrow/token.signs" = some 0 := by kernel_rfl
theorem gTabType : (Tryz.prog.globals[0]?).map (·.type) = some 161 := by kernel_rfl
theorem gBlk : Tryz.prog.globalNamed "harrow/runes.blocks" = some 2 := by kernel_rfl
theorem gBlkType : (Tryz.prog.globals[2]?).map (·.type) = some 187 := by kernel_rfl
theorem Tryz.cells150 : Tryz.prog.cellsOf 150 = 2 := by kernel_rfl
theorem Tryz.cellsInt : Tryz.prog.cellsOf 3 = 1 := by kernel_rfl
theorem Tryz.cellsStr : Tryz.prog.cellsOf 9 = 1 := by kernel_rfl
theorem Tryz.cells187 : Tryz.prog.cellsOf 187 = 10 := by kernel_rfl
theorem Tryz.cells186 : Tryz.prog.cellsOf 186 = 2 := by kernel_rfl
theorem Tryz.cells21 : Tryz.prog.cellsOf 21 = 1 := by kernel_rfl
set_option maxRecDepth 100000 in
theorem run_trod {H : Type} {enc : TypeId × Value → H} {W : World} {base fuel : Nat} {sp : Nat → Bool} {held : Bool} {cs : List Value} {z : DataW H × List MemPlace}
    (h : DataW.trod enc Tryz.prog W base sp held fuel 150 cs = some z) : ∃ a s, cs = [.int .i64 a, .string s] ∧ z.1 = .agg [.lit (.int .i64 a), .lit (.string s.data.toList)] := by
  obtain ⟨y0, y1, n, rfl, hl, h0, h1⟩ := trod_struct2 Tryz.underlying150 h
  rw [Tryz.cells150] at hl
  match cs, hl with
  | [c0, c1], _ =>
    dsimp only at h0 h1
    rw [Tryz.cellsInt] at h0
    rw [Tryz.cellsStr] at h1
    obtain ⟨a, e0, e0', _⟩ := DataW.trod_int Tryz.underlying3 h0
    obtain ⟨b, e1, e1', _⟩ := DataW.trod_string Tryz.underlying9 h1
    have e0 : [c0] = [Value.int .i64 a] := e0
    have e1 : [c1] = [Value.string b] := e1
    cases e0
    cases e1
    exact ⟨a, b, rfl, by rw [e0', e1']⟩
theorem tab_laid {H : Type} : (Rows.laid_harrow_token_signs : DataW H) = .agg (sgTab.map fun p => .agg [.lit (.int .i64 p.1), .lit (.string p.2)]) := rfl
theorem tab_get : ∀ (i : Nat) v, tabL[i]? = some v → ∃ j p, sgTab[j]? = some p ∧ ((i = 2 * j ∧ v = .int .i64 p.1) ∨ (i = 2 * j + 1 ∧ v = .string ⟨p.2.toArray⟩)) := by
  have key : ∀ (l : List (Int × List UInt8)) (i : Nat) (v : Value), (l.flatMap fun p => [Value.int .i64 p.1, .string ⟨p.2.toArray⟩])[i]? = some v → ∃ j p, l[j]? = some p ∧ ((i = 2 * j ∧ v = .int .i64 p.1) ∨ (i = 2 * j + 1 ∧ v = .string ⟨p.2.toArray⟩)) := by
    intro l
    induction l with
    | nil => intro i v h; simp at h
    | cons p l ih =>
      intro i v h
      rw [List.flatMap_cons] at h
      match i, h with
      | 0, h => exact ⟨0, p, rfl, .inl ⟨rfl, by simpa using h.symm⟩⟩
      | 1, h => exact ⟨0, p, rfl, .inr ⟨rfl, by simpa using h.symm⟩⟩
      | i + 2, h =>
        obtain ⟨j, q, h1, h2⟩ := ih i v (by simpa using h)
        exact ⟨j + 1, q, by simpa using h1, by
          rcases h2 with ⟨x, y⟩ | ⟨x, y⟩
          · exact .inl ⟨by omega, y⟩
          · exact .inr ⟨by omega, y⟩⟩
  exact key sgTab
theorem sg_of_vars {W : World} {ps : List MemPlace} (h : DataW.LaidVars Tryz.prog W [("harrow/token.signs", Rows.laid_harrow_token_signs)] ps) : SG W := by
  obtain ⟨g', t', cs, fuel, p, q, hg', ht', hvar, hd, _, _⟩ := h
  obtain rfl := Option.some.inj (gTab.symm.trans hg')
  obtain rfl := Option.some.inj (gTabType.symm.trans ht')
  obtain ⟨xs, m, rfl, hx, hl, hn, hel⟩ := DataW.trod_array Tryz.underlying161 hd
  have hx1 := congrArg Prod.fst hx
  dsimp only at hx1
  rw [tab_laid] at hx1
  injection hx1 with hx1
  rw [Tryz.cells150] at hel
  have hcell := World.var?_cell gTab hvar
  have key : ∀ j p, sgTab[j]? = some p → W.cell? ⟨0, 2 * j, none⟩ = some (.int .i64 p.1) ∧ W.cell? ⟨0, 2 * j + 1, none⟩ = some (.string ⟨p.2.toArray⟩) := fun j p hp => by
    have hj : j < 24 := (List.getElem?_eq_some_iff.1 hp).1
    have k0 := hel j hj
    obtain ⟨x, hxj⟩ : ∃ x, xs[j]? = some x := ⟨_, List.getElem?_eq_getElem (by omega)⟩
    rw [hxj] at k0
    obtain ⟨a, s, e1, e2⟩ := run_trod k0
    have h3 : (xs.map (·.1))[j]? = some x.1 := by rw [List.getElem?_map, hxj]; rfl
    rw [← hx1, List.getElem?_map, hp] at h3
    have h3 : DataW.agg [.lit (.int .i64 p.1), .lit (.string p.2)] = x.1 := Option.some.inj h3
    rw [e2] at h3
    injection h3 with h3
    injection h3 with h4 h5
    injection h5 with h5 _
    injection h4 with h4
    injection h4 with h4 h4
    injection h5 with h5
    injection h5 with h5
    have hs : s = ⟨p.2.toArray⟩ := by rw [h5]
    have c0 : cs.toList[2 * j]? = some (.int .i64 p.1) := by
      have := congrArg (fun l => l[0]?) e1
      simp only [List.getElem?_take, List.getElem?_drop, List.getElem?_cons_zero] at this
      rw [if_pos (by omega), show j * 2 + 0 = 2 * j from by omega, ← h4] at this
      exact this
    have c1 : cs.toList[2 * j + 1]? = some (.string ⟨p.2.toArray⟩) := by
      have := congrArg (fun l => l[1]?) e1
      simp only [List.getElem?_take, List.getElem?_drop, List.getElem?_cons_succ, List.getElem?_cons_zero] at this
      rw [if_pos (by omega), show j * 2 + 1 = 2 * j + 1 from by omega, hs] at this
      exact this
    exact ⟨(hcell (2 * j)).trans (by simpa using c0), (hcell (2 * j + 1)).trans (by simpa using c1)⟩
  refine ⟨World.block_lt_of_cell? W _ (key 0 _ rfl).1, fun i v hv => ?_⟩
  obtain ⟨j, p, hp, hor⟩ := tab_get i v hv
  obtain ⟨h1, h2⟩ := key j p hp
  rw [Nat.zero_add]
  rcases hor with ⟨rfl, rfl⟩ | ⟨rfl, rfl⟩
  · exact h1
  · exact h2
theorem vars_tail {P : Program} {W : World} {x : String × DataW Unit} {r : List (String × DataW Unit)} {ps : List MemPlace} (h : DataW.LaidVars P W (x :: r) ps) : ∃ q, DataW.LaidVars P W r q := by
  obtain ⟨_, _, _, _, _, q, _, _, _, _, hq, _⟩ := h
  exact ⟨q, hq⟩
theorem run_trodB {H : Type} {enc : TypeId × Value → H} {W : World} {base fuel : Nat} {sp : Nat → Bool} {held : Bool} {c0 c1 : Value} {z : DataW H × List MemPlace}
    (h : DataW.trod enc Tryz.prog W base sp held fuel 186 [c0, c1] = some z) : ∃ a b, c0 = .int .i32 a ∧ c1 = .int .i32 b ∧ z.1 = .agg [.lit (.int .i32 a), .lit (.int .i32 b)] := by
  obtain ⟨y0, y1, n, rfl, _, h0, h1⟩ := trod_struct2 Tryz.underlying186 h
  dsimp only at h0 h1
  rw [Tryz.cells21] at h0 h1
  obtain ⟨a, e0, e0', _⟩ := DataW.trod_int Tryz.underlying21 h0
  obtain ⟨b, e1, e1', _⟩ := DataW.trod_int Tryz.underlying21 h1
  have e0 : [c0] = [Value.int .i32 a] := e0
  have e1 : [c1] = [Value.int .i32 b] := e1
  cases e0
  cases e1
  exact ⟨a, b, rfl, rfl, by rw [e0', e1']⟩

set_option maxRecDepth 100000 in
theorem vb_of_vars {W : World} {rest : List (String × DataW Unit)} {ps : List MemPlace} (h : DataW.LaidVars Tryz.prog W (("harrow/runes.blocks", Rows.laid_harrow_runes_blocks) :: rest) ps) : R.VB W := by
  obtain ⟨g', t', cs, fuel, p, q, hg', ht', hvar, hd, _, _⟩ := h
  obtain rfl := Option.some.inj (gBlk.symm.trans hg')
  obtain rfl := Option.some.inj (gBlkType.symm.trans ht')
  obtain ⟨xs, m, rfl, hx, hl, hn, hel⟩ := DataW.trod_array Tryz.underlying187 hd
  have hx1 := congrArg Prod.fst hx
  dsimp only at hx1
  rw [Tryz.cells187] at hl
  have hcell := World.var?_cell gBlk hvar
  obtain ⟨l⟩ := cs
  match l, hl with
  | [a0, a1, a2, a3, a4, a5, a6, a7, a8, a9], _ =>
    match xs, hn with
    | [x0, x1, x2, x3, x4], _ =>
      have k0 := hel 0 (by omega)
      have k1 := hel 1 (by omega)
      have k2 := hel 2 (by omega)
      have k3 := hel 3 (by omega)
      have k4 := hel 4 (by omega)
      rw [Tryz.cells186] at k0 k1 k2 k3 k4
      obtain ⟨p0, q0, rfl, rfl, r0⟩ := run_trodB (show DataW.trod _ Tryz.prog _ _ _ _ m 186 [a0, a1] = some x0 from k0)
      obtain ⟨p1, q1, rfl, rfl, r1⟩ := run_trodB (show DataW.trod _ Tryz.prog _ _ _ _ m 186 [a2, a3] = some x1 from k1)
      obtain ⟨p2, q2, rfl, rfl, r2⟩ := run_trodB (show DataW.trod _ Tryz.prog _ _ _ _ m 186 [a4, a5] = some x2 from k2)
      obtain ⟨p3, q3, rfl, rfl, r3⟩ := run_trodB (show DataW.trod _ Tryz.prog _ _ _ _ m 186 [a6, a7] = some x3 from k3)
      obtain ⟨p4, q4, rfl, rfl, r4⟩ := run_trodB (show DataW.trod _ Tryz.prog _ _ _ _ m 186 [a8, a9] = some x4 from k4)
      simp only [Rows.laid_harrow_runes_blocks, List.map_cons, List.map_nil, r0, r1, r2, r3, r4, DataW.agg.injEq, List.cons.injEq, DataW.lit.injEq, Lit.int.injEq, and_true, true_and] at hx1
      obtain ⟨⟨e0, e1⟩, ⟨e2, e3⟩, ⟨e4, e5⟩, ⟨e6, e7⟩, e8, e9⟩ := hx1
      subst e0 e1 e2 e3 e4 e5 e6 e7 e8 e9
      have c0 := hcell 0
      exact ⟨World.block_lt_of_cell? W _ c0, c0, hcell 1, hcell 2, hcell 3, hcell 4, hcell 5, hcell 6, hcell 7, hcell 8, hcell 9⟩


abbrev laidL : List (String × DataW Unit) := [("harrow/runes.blocks", Rows.laid_harrow_runes_blocks), ("harrow/token.signs", Rows.laid_harrow_token_signs)]
theorem gw_of_laid {W : World} (h : laidMetH Tryz.prog laidL W) : N.GW W := by
  have h : laidMet Tryz.prog laidL W := h
  obtain ⟨ps, h1, _⟩ := h
  obtain ⟨q2, h2⟩ := vars_tail h1
  exact ⟨sg_of_vars h2, vb_of_vars h1⟩
/-- A world with the tables laid. -/
def layAt (k : Nat) (cs : Array Value) (w : World) : World := { w with heap := w.heap.modify k fun
      | .cells _ t frozen => .cells cs t frozen
      | o => o }
def layTab (w : World) : World := layAt 2 #[.int .i32 0, .int .i32 127, .int .i32 128, .int .i32 2047, .int .i32 2048, .int .i32 55295, .int .i32 57344, .int .i32 65535, .int .i32 65536, .int .i32 1114111] (layAt 0 #[.int .i64 29, .string ⟨#[37, 101]⟩, .int .i64 30, .string ⟨#[37, 102]⟩, .int .i64 14, .string ⟨#[94, 43]⟩, .int .i64 15, .string ⟨#[94, 45]⟩, .int .i64 13, .string ⟨#[94]⟩, .int .i64 6, .string ⟨#[60, 45]⟩, .int .i64 27, .string ⟨#[45, 62]⟩, .int .i64 7, .string ⟨#[47]⟩, .int .i64 8, .string ⟨#[38]⟩, .int .i64 9, .string ⟨#[33]⟩, .int .i64 10, .string ⟨#[63]⟩, .int .i64 11, .string ⟨#[42]⟩, .int .i64 12, .string ⟨#[43]⟩, .int .i64 16, .string ⟨#[40]⟩, .int .i64 17, .string ⟨#[41]⟩, .int .i64 18, .string ⟨#[46]⟩, .int .i64 21, .string ⟨#[123, 58]⟩, .int .i64 22, .string ⟨#[58, 125]⟩, .int .i64 23, .string ⟨#[123, 124]⟩, .int .i64 24, .string ⟨#[124, 125]⟩, .int .i64 25, .string ⟨#[123, 126]⟩, .int .i64 26, .string ⟨#[126, 125]⟩, .int .i64 19, .string ⟨#[123]⟩, .int .i64 20, .string ⟨#[125]⟩] w)
end Go.Proofs.YtkihfkcmcdiajaaGreatDoor

namespace Go.Proofs.YtkihfkcmcdiajaaGreatDoor.N
open Go.RowKit
/-- A rule with its place, in a box of its own. -/
structure PX (W : World) (k : Nat) (a b c : Value) : Prop where
  heap : W.heap[k]? = some (.cells #[a, b, c] 62 (0, 0))
theorem PX.lt {W : World} {k : Nat} {a b c : Value} (h : PX W k a b c) : k < W.heap.size := (Array.getElem?_eq_some_iff.1 h.heap).1
theorem PX.same {W W' : World} {k : Nat} {a b c : Value} (h : PX W k a b c) (hb : W'.heap[k]? = W.heap[k]?) : PX W' k a b c := ⟨hb.trans h.heap⟩
theorem PX.cl {W : World} {k : Nat} {a b c : Value} (h : PX W k a b c) : W.cell? ⟨k, 0, none⟩ = some a ∧ W.cell? ⟨k, 1, none⟩ = some b ∧ W.cell? ⟨k, 2, none⟩ = some c := by
  have key : ∀ (j : Nat) u, (#[a, b, c] : Array Value)[j]? = some u → W.cell? ⟨k, j, none⟩ = some u := fun j u hu => by
    rw [cell_of_row W k j _ 62 (0, 0) h.heap]; exact hu
  exact ⟨key 0 _ rfl, key 1 _ rfl, key 2 _ rfl⟩
theorem PX.fz {W : World} {k : Nat} {a b c : Value} (h : PX W k a b c) (j : Nat) : W.frozen? ⟨k, j, none⟩ = false := frozen_of_row W k j _ 62 h.heap
abbrev st3 (W : World) (k : Nat) (a b c : Value) : World := ((W.setCell ⟨k, 0, none⟩ a).setCell ⟨k, 1, none⟩ b).setCell ⟨k, 2, none⟩ c
theorem st3_px {W : World} {k : Nat} {a0 b0 c0 : Value} (h : PX W k a0 b0 c0) (a b c : Value) : PX (st3 W k a b c) k a b c := by
  have h0 := heap_setCell_same _ k 0 _ 62 a h.heap
  have h1 := heap_setCell_same _ k 1 _ 62 b h0
  have h2 := heap_setCell_same _ k 2 _ 62 c h1
  refine ⟨?_⟩
  rw [h2]
  simp
theorem st3_other {W : World} {k j : Nat} (a b c : Value) (h : j ≠ k) : (st3 W k a b c).heap[j]? = W.heap[j]? :=
  (Below.heap_setCell _ _ _ _ h).trans ((Below.heap_setCell _ _ _ _ h).trans (Below.heap_setCell _ _ _ _ h))
theorem st3_below {B : Nat} {w W : World} {k : Nat} (h : Below B w W) (hk : B ≤ k) (a b c : Value) : Below B w (st3 W k a b c) := ((h.setCell (p := ⟨k, 0, none⟩) hk _).setCell (p := ⟨k, 1, none⟩) hk _).setCell (p := ⟨k, 2, none⟩) hk _
theorem PX.ne {W : World} {k B e s n : Nat} {u a b c : Value} {xs : List Value} (h : PX W k a b c) (ho : W.ownsRow B e s u n xs) (he : e ≠ 62) {j : Nat} (hj : u.ownBlock = some j) : j ≠ k := fun q => by
  subst q
  obtain ⟨cs, hc⟩ := own_ty ho hj
  rw [h.heap] at hc
  injection hc with h4
  injection h4 with _ h5
  exact he h5.symm
theorem PX.neb {W : World} {k b : Nat} {tv v x y u : Value} {i d : Nat} (h : PX W k x y u) (hx : RX W b tv i d v) : b ≠ k := fun q => by
  subst q
  have := hx.heap
  rw [h.heap] at this
  injection this with h4
  injection h4 with _ h5
  cases h5
theorem RS.st3 {E : PE} {z : Nat} {w0 W : World} {b : Nat} {tv : Value} {i d : Nat} {v : Value} {L : List Nd} {k : Nat} {a0 b0 c0 : Value} (h : RS E z w0 W b tv i d v L) (hp : PX W k a0 b0 c0) (hk : w0.heap.size ≤ k) (x y u : Value) : RS E z w0 (st3 W k x y u) b tv i d v L :=
  ⟨st3_below h.bl hk x y u, h.lo, h.x.same (st3_other x y u (hp.neb h.x)), own_same h.t fun j hj => st3_other x y u (hp.ne h.t (by decide) hj), own_same h.o fun j hj => st3_other x y u (hp.ne h.o (by decide) hj), h.hi, h.hd⟩
theorem Fr.st3 {W W' : World} {b k : Nat} {v v' : Value} (h : Fr W W' b v v') (hk : W.heap.size ≤ k) (x y u : Value) : Fr W (st3 W' k x y u) b v v' :=
  ⟨Nat.le_trans h.size (by simp [World.setCell]), fun j hj hb hv => (st3_other x y u (by omega)).trans (h.block j hj hb hv), h.own⟩
theorem ret_px {fn : Func} {R : Ending → World → Prop} {act : Act} {W : World} {k : Nat} {a b c : Value} (hF : fn.results = #[.cell 2 62]) (hd : act.defers = []) (h2 : act.tmps.getD 2 undef = .pointer (some ⟨k, 0, none⟩)) (hT : PX W k a b c) (hR : R (.returned (.agg #[a, b, c])) W) : bodyPost Tryz.prog fn R .ret act W := by
  obtain ⟨c0, c1, c2⟩ := hT.cl
  refine bodyPost_ret (v := .agg #[a, b, c]) ?_ hd hR
  simp only [Array.getD_eq_getD_getElem?] at h2
  simp [results, hF, go_sem, h2, c0, c1, c2]
set_option maxRecDepth 100000 in
set_option maxHeartbeats 8000000 in
theorem alone_x {E : PE} (hE : OkE E) {z : Nat} {w0 : World} (hv : R.VB w0) {b : Nat} {tv : Value} {W : World} {v : Value} {L : List Nd} (h : RS E z w0 W b tv 0 0 v L) (q : Nat × Int) (hq : exN E 0 = .inr q) : Calls Tryz.prog 26 #[.pointer (some ⟨b, 0, none⟩)] W fun e W' => e = pnc (plA E z q.1) q.2 ∧ Below w0.heap.size w0 W' := by
  obtain ⟨t, ht, hk, hpl, _⟩ := toks_get E z h.hi
  have HH : Hid (∀ W, RS E z w0 W b tv 0 0 v L → Calls Tryz.prog 46 #[.pointer (some ⟨b, 0, none⟩)] W fun e W' => e = .returned (.agg #[.int .i64 t.kd, .int .i64 t.nn, .int .i64 (plA E z 0), .int .i64 t.en, .string t.tx, .int .u64 t.s0, .int .u64 t.s1, .int .u64 t.s2, .int .u64 t.s3]) ∧ Below W.heap.size W W') := fun W h => by
    have := here_any h t ht
    rw [hpl] at this
    exact this
  have fl2 := fld2
  have fl0 := fld0
  have HP := (show Hid (PX (W.alloc (.cells #[.int .i64 0, .string ⟨#[]⟩, .slice none 0 0] 62)) W.heap.size (.int .i64 0) (.string ⟨#[]⟩) (.slice none 0 0)) from ⟨heap_alloc_new W _⟩)
  have H := (show Hid (RS E z w0 (W.alloc (.cells #[.int .i64 0, .string ⟨#[]⟩, .slice none 0 0] 62)) b tv 0 0 v L) from h.later (below_box _ _))
  have HF := (show Hid (Fr W (W.alloc (.cells #[.int .i64 0, .string ⟨#[]⟩, .slice none 0 0] 62)) b (.slice none 0 0) (.slice none 0 0)) from Fr.below b _ (below_box _ _))
  have hnb := h.x.lt
  have hw0 := h.bl.size
  have HBo : Hid (∀ W, RS E z w0 W b tv 0 0 v L → Calls Tryz.prog 49 #[.pointer (some ⟨b, 0, none⟩)] W fun e W' => e = pnc (plA E z q.1) q.2 ∧ Below w0.heap.size w0 W') := fun W h => body_no hE hv h q hq
  clear h ht hk hpl hE hv hq
  generalize plA E z 0 = p0 at *
  go_enter Tryz.func26, Tryz.ntmps26
  go_wp2_with fail
  generalize W.alloc (.cells #[.int .i64 0, .string ⟨#[]⟩, .slice none 0 0] 62) = w1 at *
  refine (HH.out _ H.out).mono ?_
  rintro e w2 ⟨rfl, hb⟩
  have H2 := (show Hid _ from H.out.later hb)
  have HF2 := (show Hid (Fr W w2 b (.slice none 0 0) (.slice none 0 0)) from HF.out.trans (Fr.below b _ hb))
  have HP2 := (show Hid _ from HP.out.same (hb.block _ HP.out.lt))
  clear hb HH H HF HP
  go_wp2_with fail
  refine (HBo.out _ H2.out).mono ?_
  rintro e w3 ⟨rfl, hb⟩
  exact post_panic rfl ⟨rfl, hb⟩
set_option maxRecDepth 100000 in
set_option maxHeartbeats 8000000 in
theorem alone_s {E : PE} (hE : OkE E) {z : Nat} {w0 : World} (hv : R.VB w0) {b : Nat} {tv : Value} {W : World} {v : Value} {L : List Nd} (h : RS E z w0 W b tv 0 0 v L) (a : Nat) (ns : List Nd) (hq : exN E 0 = .inl (a, ns)) (hz : ¬ kdA E a = 0) : Calls Tryz.prog 26 #[.pointer (some ⟨b, 0, none⟩)] W fun e W' => e = pnc (plA E z a) 60 ∧ Below w0.heap.size w0 W' := by
  obtain ⟨t, ht, hk, hpl, _⟩ := toks_get E z h.hi
  have HH : Hid (∀ W, RS E z w0 W b tv 0 0 v L → Calls Tryz.prog 46 #[.pointer (some ⟨b, 0, none⟩)] W fun e W' => e = .returned (.agg #[.int .i64 t.kd, .int .i64 t.nn, .int .i64 (plA E z 0), .int .i64 t.en, .string t.tx, .int .u64 t.s0, .int .u64 t.s1, .int .u64 t.s2, .int .u64 t.s3]) ∧ Below W.heap.size W W') := fun W h => by
    have := here_any h t ht
    rw [hpl] at this
    exact this
  have fl2 := fld2
  have fl0 := fld0
  have HP := (show Hid (PX (W.alloc (.cells #[.int .i64 0, .string ⟨#[]⟩, .slice none 0 0] 62)) W.heap.size (.int .i64 0) (.string ⟨#[]⟩) (.slice none 0 0)) from ⟨heap_alloc_new W _⟩)
  have H := (show Hid (RS E z w0 (W.alloc (.cells #[.int .i64 0, .string ⟨#[]⟩, .slice none 0 0] 62)) b tv 0 0 v L) from h.later (below_box _ _))
  have HF := (show Hid (Fr W (W.alloc (.cells #[.int .i64 0, .string ⟨#[]⟩, .slice none 0 0] 62)) b (.slice none 0 0) (.slice none 0 0)) from Fr.below b _ (below_box _ _))
  have hnb := h.x.lt
  have hw0 := h.bl.size
  have HBo : Hid (∀ W, RS E z w0 W b tv 0 0 v L → Calls Tryz.prog 49 #[.pointer (some ⟨b, 0, none⟩)] W fun e W' => ∃ v', e = .returned v' ∧ RS E z w0 W' b tv a 0 v' ns ∧ Fr W W' b (.slice none 0 0) v') := fun W h => body_ok hE hv h a ns hq
  have hal : a ≤ E.l.length := (ex_adv (Nat.zero_le _) hq).2
  obtain ⟨t2, ht2, hk2, hpl2, _⟩ := toks_get E z hal
  have HH2 : Hid (∀ W v, RS E z w0 W b tv a 0 v ns → Calls Tryz.prog 46 #[.pointer (some ⟨b, 0, none⟩)] W fun e W' => e = .returned (.agg #[.int .i64 t2.kd, .int .i64 t2.nn, .int .i64 t2.fr, .int .i64 t2.en, .string t2.tx, .int .u64 t2.s0, .int .u64 t2.s1, .int .u64 t2.s2, .int .u64 t2.s3]) ∧ Below W.heap.size W W') := fun W v h => here_any h t2 ht2
  have HRf : Hid (∀ W v, RS E z w0 W b tv a 0 v ns → Calls Tryz.prog 50 #[.pointer (some ⟨b, 0, none⟩), .int .i64 60] W fun e W' => e = pnc (plA E z a) 60 ∧ Below W.heap.size W W') := fun W v h => refuse_any h 60
  have t1 : (t2.kd != 0) = true := by rw [hk2]; simpa using hz
  clear h ht hk hpl hE hv hq ht2 hk2 hpl2 hz
  generalize plA E z 0 = p0 at *
  go_enter Tryz.func26, Tryz.ntmps26
  go_wp2_with fail
  generalize W.alloc (.cells #[.int .i64 0, .string ⟨#[]⟩, .slice none 0 0] 62) = w1 at *
  refine (HH.out _ H.out).mono ?_
  rintro e w2 ⟨rfl, hb⟩
  have H2 := (show Hid _ from H.out.later hb)
  have HF2 := (show Hid (Fr W w2 b (.slice none 0 0) (.slice none 0 0)) from HF.out.trans (Fr.below b _ hb))
  have HP2 := (show Hid _ from HP.out.same (hb.block _ HP.out.lt))
  clear hb HH H HF HP
  go_wp2_with fail
  refine (HBo.out _ H2.out).mono ?_
  rintro e w3 ⟨v3, rfl, h3, hf3⟩
  have H3 := (show Hid _ from h3)
  have HF3 := (show Hid (Fr W w3 b (.slice none 0 0) v3) from HF2.out.trans hf3)
  have HP3 := (show Hid _ from HP2.out.same (hf3.block _ HP2.out.lt (by omega) (by intro q; cases q)))
  clear h3 hf3 H2 HF2 HP2 HBo
  go_wp2_with fail
  refine (HH2.out _ _ H3.out).mono ?_
  rintro e w4 ⟨rfl, hb⟩
  have H4 := (show Hid _ from H3.out.later hb)
  have HF4 := (show Hid (Fr W w4 b (.slice none 0 0) v3) from HF3.out.trans (Fr.below b _ hb))
  have HP4 := (show Hid _ from HP3.out.same (hb.block _ HP3.out.lt))
  clear hb H3 HF3 HP3 HH2
  obtain ⟨c0, c1, c2⟩ := HP4.out.cl
  have f0 := HP4.out.fz 0
  have f1' := HP4.out.fz 1
  have f2' := HP4.out.fz 2
  go_wp2_with fail
  refine (HRf.out _ _ H4.out).mono ?_
  rintro e w5 ⟨rfl, hb⟩
  exact post_panic rfl ⟨rfl, H4.out.bl.trans (hb.mono H4.out.bl.size)⟩
set_option maxRecDepth 100000 in
set_option maxHeartbeats 8000000 in
theorem alone_ok {E : PE} (hE : OkE E) {z : Nat} {w0 : World} (hv : R.VB w0) {b : Nat} {tv : Value} {W : World} {v : Value} {L : List Nd} (h : RS E z w0 W b tv 0 0 v L) (a : Nat) (ns : List Nd) (hq : exN E 0 = .inl (a, ns)) (hz : kdA E a = 0) : Calls Tryz.prog 26 #[.pointer (some ⟨b, 0, none⟩)] W fun e W' => ∃ v', e = .returned (.agg #[.int .i64 (plA E z 0), .string ⟨#[]⟩, v']) ∧ RS E z w0 W' b tv a 0 v' ns ∧ Fr W W' b (.slice none 0 0) v' := by
  obtain ⟨t, ht, hk, hpl, _⟩ := toks_get E z h.hi
  have HH : Hid (∀ W, RS E z w0 W b tv 0 0 v L → Calls Tryz.prog 46 #[.pointer (some ⟨b, 0, none⟩)] W fun e W' => e = .returned (.agg #[.int .i64 t.kd, .int .i64 t.nn, .int .i64 (plA E z 0), .int .i64 t.en, .string t.tx, .int .u64 t.s0, .int .u64 t.s1, .int .u64 t.s2, .int .u64 t.s3]) ∧ Below W.heap.size W W') := fun W h => by
    have := here_any h t ht
    rw [hpl] at this
    exact this
  have fl2 := fld2
  have fl0 := fld0
  have HP := (show Hid (PX (W.alloc (.cells #[.int .i64 0, .string ⟨#[]⟩, .slice none 0 0] 62)) W.heap.size (.int .i64 0) (.string ⟨#[]⟩) (.slice none 0 0)) from ⟨heap_alloc_new W _⟩)
  have H := (show Hid (RS E z w0 (W.alloc (.cells #[.int .i64 0, .string ⟨#[]⟩, .slice none 0 0] 62)) b tv 0 0 v L) from h.later (below_box _ _))
  have HF := (show Hid (Fr W (W.alloc (.cells #[.int .i64 0, .string ⟨#[]⟩, .slice none 0 0] 62)) b (.slice none 0 0) (.slice none 0 0)) from Fr.below b _ (below_box _ _))
  have hnb := h.x.lt
  have hw0 := h.bl.size
  have HBo : Hid (∀ W, RS E z w0 W b tv 0 0 v L → Calls Tryz.prog 49 #[.pointer (some ⟨b, 0, none⟩)] W fun e W' => ∃ v', e = .returned v' ∧ RS E z w0 W' b tv a 0 v' ns ∧ Fr W W' b (.slice none 0 0) v') := fun W h => body_ok hE hv h a ns hq
  have hal : a ≤ E.l.length := (ex_adv (Nat.zero_le _) hq).2
  obtain ⟨t2, ht2, hk2, hpl2, _⟩ := toks_get E z hal
  have HH2 : Hid (∀ W v, RS E z w0 W b tv a 0 v ns → Calls Tryz.prog 46 #[.pointer (some ⟨b, 0, none⟩)] W fun e W' => e = .returned (.agg #[.int .i64 t2.kd, .int .i64 t2.nn, .int .i64 t2.fr, .int .i64 t2.en, .string t2.tx, .int .u64 t2.s0, .int .u64 t2.s1, .int .u64 t2.s2, .int .u64 t2.s3]) ∧ Below W.heap.size W W') := fun W v h => here_any h t2 ht2
  have t1 : (t2.kd != 0) = false := by rw [hk2, hz]; simp
  clear h ht hk hpl hE hv hq ht2 hk2 hpl2 hz
  generalize plA E z 0 = p0 at *
  go_enter Tryz.func26, Tryz.ntmps26
  go_wp2_with fail
  generalize W.alloc (.cells #[.int .i64 0, .string ⟨#[]⟩, .slice none 0 0] 62) = w1 at *
  refine (HH.out _ H.out).mono ?_
  rintro e w2 ⟨rfl, hb⟩
  have H2 := (show Hid _ from H.out.later hb)
  have HF2 := (show Hid (Fr W w2 b (.slice none 0 0) (.slice none 0 0)) from HF.out.trans (Fr.below b _ hb))
  have HP2 := (show Hid _ from HP.out.same (hb.block _ HP.out.lt))
  clear hb HH H HF HP
  go_wp2_with fail
  refine (HBo.out _ H2.out).mono ?_
  rintro e w3 ⟨v3, rfl, h3, hf3⟩
  have H3 := (show Hid _ from h3)
  have HF3 := (show Hid (Fr W w3 b (.slice none 0 0) v3) from HF2.out.trans hf3)
  have HP3 := (show Hid _ from HP2.out.same (hf3.block _ HP2.out.lt (by omega) (by intro q; cases q)))
  clear h3 hf3 H2 HF2 HP2 HBo
  go_wp2_with fail
  refine (HH2.out _ _ H3.out).mono ?_
  rintro e w4 ⟨rfl, hb⟩
  have H4 := (show Hid _ from H3.out.later hb)
  have HF4 := (show Hid (Fr W w4 b (.slice none 0 0) v3) from HF3.out.trans (Fr.below b _ hb))
  have HP4 := (show Hid _ from HP3.out.same (hb.block _ HP3.out.lt))
  clear hb H3 HF3 HP3 HH2
  obtain ⟨c0, c1, c2⟩ := HP4.out.cl
  have f0 := HP4.out.fz 0
  have f1' := HP4.out.fz 1
  have f2' := HP4.out.fz 2
  obtain ⟨A3, n3, rfl⟩ := own_form H4.out.o
  go_wp2_with fail
  refine ret_px rfl rfl rfl (st3_px HP4.out (.int .i64 p0) (.string ⟨#[]⟩) (.slice A3 ns.length n3)) ?_
  exact ⟨_, rfl, H4.out.st3 HP4.out hw0 _ _ _, HF4.out.st3 (Nat.le_refl _) _ _ _⟩
end Go.Proofs.YtkihfkcmcdiajaaGreatDoor.N

namespace Go.Proofs.YtkihfkcmcdiajaaGreatDoor.T
open Go.RowKit
def asText (l : List Int) : ByteArray := l.foldl (fun r n => r.push (UInt8.ofNat n.toNat)) ByteArray.empty
theorem asText_data (l : List Int) : (asText l).data.toList = l.map (fun n => UInt8.ofNat n.toNat) := by
  have key : ∀ (l : List Int) (s : ByteArray), (l.foldl (fun r n => r.push (UInt8.ofNat n.toNat)) s).data.toList = s.data.toList ++ l.map (fun n => UInt8.ofNat n.toNat) := by
    intro l
    induction l with
    | nil => intro s; simp
    | cons b l ih => intro s; rw [List.foldl_cons, ih]; simp [ByteArray.push]
  have := key l ByteArray.empty
  simpa [asText] using this
theorem asText_eq (l : List Int) : asText l = ⟨(l.map fun n => UInt8.ofNat n.toNat).toArray⟩ := by
  have h := asText_data l
  cases ht : asText l with
  | mk d =>
    rw [ht] at h
    cases d with
    | mk x => simp at h; rw [h]
def byl (s : ByteArray) : List Int := s.data.toList.map fun c => (c.toNat : Int)
theorem byl_len (s : ByteArray) : (byl s).length = s.size := by unfold byl; rw [List.length_map]; rfl
theorem byl_get (s : ByteArray) (k : Nat) (h : k < s.size) : (byl s)[k]? = some (s[k].toNat : Int) := by
  unfold byl
  rw [List.getElem?_map, List.getElem?_eq_getElem (by simpa using h)]
  rfl
theorem asText_byl (s : ByteArray) : asText (byl s) = s := by
  rw [asText_eq]
  unfold byl
  rw [List.map_map]
  have : (List.map ((fun n : Int => UInt8.ofNat n.toNat) ∘ fun c : UInt8 => (c.toNat : Int)) s.data.toList) = s.data.toList := by
    conv => rhs; rw [← List.map_id s.data.toList]
    refine List.map_congr_left fun c _ => ?_
    simp
  rw [this]
theorem conv_bytes (s : ByteArray) (w : World) : (convert 9 84 (.string s)).run Tryz.prog w = .ok (.slice (some ⟨w.heap.size, 0, none⟩) s.size (grownCap w s.size 0 5)) (Lib.bytesWorld w 5 s) :=
  Lib.run_convert_string_bytes w 9 84 5 s Tryz.underlying9 Tryz.underlying84 Tryz.underlying5
theorem conv_again (s : ByteArray) (w : World) (c : Nat) : (convert 84 9 (.slice (some ⟨w.heap.size, 0, none⟩) s.size c)).run Tryz.prog (Lib.bytesWorld w 5 s) = .ok (.string s) (Lib.bytesWorld w 5 s) := by
  rw [run_convert_bytes_string _ 84 9 5 _ _ _ Tryz.underlying84 Tryz.underlying5 Tryz.underlying9]
  have h := run_bytesToString (P := Tryz.prog) (Lib.bytesWorld w 5 s) ⟨w.heap.size, 0, none⟩ s.size c (byl s) ?_
  · rw [h]; exact congrArg (fun x => Result.ok (Value.string x) _) (asText_byl s)
  · have h2 := run_loadCells_list (P := Tryz.prog) (w := Lib.bytesWorld w 5 s) ⟨w.heap.size, 0, none⟩ ((byl s).map (Value.int .u8)) (fun j u hj => by
      rw [List.getElem?_map] at hj
      have hlt : j < s.size := by
        by_cases q : j < s.size
        · exact q
        · rw [List.getElem?_eq_none (by rw [byl_len]; omega)] at hj; cases hj
      rw [byl_get s j hlt] at hj
      cases hj
      have h3 := Lib.bytesWorld_cell w 5 s j hlt
      rw [Addr.add_lit, Nat.zero_add, h3]
      have : s.data.toList.getD j 0 = s[j] := by
        rw [List.getD_eq_getElem?_getD, List.getElem?_eq_getElem (by simpa using hlt)]; rfl
      rw [this])
    rwa [List.length_map, byl_len] at h2

/-- A node in a box that is the call's own. -/
structure NX (W : World) (b : Nat) (n : Nd) : Prop where
  heap : W.heap[b]? = some (.cells #[.int .i64 n.op, .int .i64 n.nn, .string n.tx, .int .u64 n.s0, .int .u64 n.s1, .int .u64 n.s2, .int .u64 n.s3] 51 (0, 0))
theorem NX.lt {W : World} {b : Nat} {n : Nd} (h : NX W b n) : b < W.heap.size := (Array.getElem?_eq_some_iff.1 h.heap).1
theorem NX.same {W W' : World} {b : Nat} {n : Nd} (h : NX W b n) (hb : W'.heap[b]? = W.heap[b]?) : NX W' b n := ⟨hb.trans h.heap⟩
theorem NX.nb {W : World} {b : Nat} {n : Nd} (h : NX W b n) : NB W b 0 n := by
  have key : ∀ (j : Nat) u, (#[Value.int .i64 n.op, .int .i64 n.nn, .string n.tx, .int .u64 n.s0, .int .u64 n.s1, .int .u64 n.s2, .int .u64 n.s3] : Array Value)[j]? = some u → W.cell? ⟨b, j, none⟩ = some u := fun j u hu => by
    rw [cell_of_row W b j _ 51 (0, 0) h.heap]
    exact hu
  exact ⟨key 0 _ rfl, key 1 _ rfl, key 2 _ rfl, key 3 _ rfl, key 4 _ rfl, key 5 _ rfl, key 6 _ rfl⟩
theorem NX.fz {W : World} {b : Nat} {n : Nd} (h : NX W b n) (j : Nat) : W.frozen? ⟨b, j, none⟩ = false := frozen_of_row W b j _ 51 h.heap
theorem NX.tx {W : World} {b : Nat} {n : Nd} (h : NX W b n) : NX (W.setCell ⟨b, 2, none⟩ (.string n.tx)) b n := ⟨by rw [heap_setCell_same W b 2 _ 51 _ h.heap]; rfl⟩

set_option maxRecDepth 100000 in
set_option maxHeartbeats 4000000 in
theorem copied_any (n : Nd) (w : World) : Calls Tryz.prog 43 #[ndG n] w fun e w' => e = .returned (ndG n) ∧ Below w.heap.size w w' := by
  obtain ⟨W2, hW2⟩ : ∃ W2, W2 = (w.alloc (.cells #[.int .i64 n.op, .int .i64 n.nn, .string n.tx, .int .u64 n.s0, .int .u64 n.s1, .int .u64 n.s2, .int .u64 n.s3] 51)).alloc (.cells #[.int .i64 0, .int .i64 0, .string ⟨#[]⟩, .int .u64 0, .int .u64 0, .int .u64 0, .int .u64 0] 51) := ⟨_, rfl⟩
  have hx1 : NX W2 w.heap.size n := by
    rw [hW2]
    exact NX.same ⟨heap_alloc_new w _⟩ ((below_box (w.alloc (ndO n)) _).block _ (by simp))
  have hx2 : NX W2 (w.heap.size + 1) (zN 0) := by
    rw [hW2]
    have h := heap_alloc_new (w.alloc (ndO n)) (ndO (zN 0))
    rw [World.size_alloc] at h
    exact ⟨h⟩
  have hB : Below w.heap.size w W2 := by rw [hW2]; exact (below_box w _).alloc (below_box w _).size _
  have hs2 : W2.heap.size = w.heap.size + 2 := by rw [hW2]; simp
  have hb3 := Lib.bytesWorld_below W2 5 n.tx
  have hx1' : NX (Lib.bytesWorld W2 5 n.tx) w.heap.size n := hx1.same (hb3.block _ hx1.lt)
  have hx2' : NX (Lib.bytesWorld W2 5 n.tx) (w.heap.size + 1) (zN 0) := hx2.same (hb3.block _ hx2.lt)
  have HB3 := (show Hid (Below w.heap.size w (Lib.bytesWorld W2 5 n.tx)) from hB.trans (hb3.mono (by omega)))
  have hc1 := conv_bytes n.tx
  have hc2 : ∀ c, (convert 84 9 (.slice (some ⟨w.heap.size + 1 + 1, 0, none⟩) n.tx.size c)).run Tryz.prog (Lib.bytesWorld W2 5 n.tx) = .ok (.string n.tx) (Lib.bytesWorld W2 5 n.tx) := fun c => by
    have h := conv_again n.tx W2 c
    rw [hs2] at h
    exact h
  have HX1 := (show Hid (NX (Lib.bytesWorld W2 5 n.tx) w.heap.size n) from hx1')
  have HX2 := (show Hid (NX (Lib.bytesWorld W2 5 n.tx) (w.heap.size + 1) (zN 0)) from hx2')
  have HY1 := (show Hid (NX ((Lib.bytesWorld W2 5 n.tx).setCell ⟨w.heap.size, 2, none⟩ (.string n.tx)) w.heap.size n) from HX1.out.tx)
  have HY2 := (show Hid (NX ((Lib.bytesWorld W2 5 n.tx).setCell ⟨w.heap.size, 2, none⟩ (.string n.tx)) (w.heap.size + 1) (zN 0)) from HX2.out.same (heap_setCell_other _ _ _ _ (by simp)))
  have HY3 := (show Hid (NX (((((((((Lib.bytesWorld W2 5 n.tx).setCell ⟨w.heap.size, 2, none⟩ (.string n.tx)).setCell ⟨w.heap.size + 1, 0, none⟩ (.int .i64 n.op)).setCell ⟨w.heap.size + 1, 1, none⟩ (.int .i64 n.nn)).setCell ⟨w.heap.size + 1, 2, none⟩ (.string n.tx)).setCell ⟨w.heap.size + 1, 3, none⟩ (.int .u64 n.s0)).setCell ⟨w.heap.size + 1, 4, none⟩ (.int .u64 n.s1)).setCell ⟨w.heap.size + 1, 5, none⟩ (.int .u64 n.s2)).setCell ⟨w.heap.size + 1, 6, none⟩ (.int .u64 n.s3)) (w.heap.size + 1) n) from ⟨by
    have h := HY2.out.heap
    have h0 := heap_setCell_same _ (w.heap.size + 1) 0 _ 51 (.int .i64 n.op) h
    have h1 := heap_setCell_same _ (w.heap.size + 1) 1 _ 51 (.int .i64 n.nn) h0
    have h2 := heap_setCell_same _ (w.heap.size + 1) 2 _ 51 (.string n.tx) h1
    have h3 := heap_setCell_same _ (w.heap.size + 1) 3 _ 51 (.int .u64 n.s0) h2
    have h4 := heap_setCell_same _ (w.heap.size + 1) 4 _ 51 (.int .u64 n.s1) h3
    have h5 := heap_setCell_same _ (w.heap.size + 1) 5 _ 51 (.int .u64 n.s2) h4
    have h6 := heap_setCell_same _ (w.heap.size + 1) 6 _ 51 (.int .u64 n.s3) h5
    rw [h6]; rfl⟩)
  have HU := (show Hid (Below w.heap.size w (((((((((Lib.bytesWorld W2 5 n.tx).setCell ⟨w.heap.size, 2, none⟩ (.string n.tx)).setCell ⟨w.heap.size + 1, 0, none⟩ (.int .i64 n.op)).setCell ⟨w.heap.size + 1, 1, none⟩ (.int .i64 n.nn)).setCell ⟨w.heap.size + 1, 2, none⟩ (.string n.tx)).setCell ⟨w.heap.size + 1, 3, none⟩ (.int .u64 n.s0)).setCell ⟨w.heap.size + 1, 4, none⟩ (.int .u64 n.s1)).setCell ⟨w.heap.size + 1, 5, none⟩ (.int .u64 n.s2)).setCell ⟨w.heap.size + 1, 6, none⟩ (.int .u64 n.s3))) from (((((((HB3.out.setCell (by simp) _).setCell (by simp) _).setCell (by simp) _).setCell (by simp) _).setCell (by simp) _).setCell (by simp) _).setCell (by simp) _).setCell (by simp) _)
  have k2 := HX1.out.nb.c2
  have f2 := HX1.out.fz 2
  rw [Nat.zero_add] at k2
  obtain ⟨c0, c1, c2, c3, c4, c5, c6⟩ := HY1.out.nb
  obtain ⟨d0, d1, d2, d3, d4, d5, d6⟩ := HY2.out.nb
  simp only [Nat.zero_add, zN] at c0 c1 c2 c3 c4 c5 c6 d0 d1 d2 d3 d4 d5 d6
  have g0 := HY2.out.fz 0
  have g1 := HY2.out.fz 1
  have g2 := HY2.out.fz 2
  have g3 := HY2.out.fz 3
  have g4 := HY2.out.fz 4
  have g5 := HY2.out.fz 5
  have g6 := HY2.out.fz 6
  clear hx1 hx2 hB hb3 hx1' hx2' hs2 HX1 HX2 HB3 HY1 HY2
  subst hW2
  go_enter Tryz.func43, Tryz.ntmps43
  go_wp2_with fail
  generalize (((((((((Lib.bytesWorld ((w.alloc (.cells #[.int .i64 n.op, .int .i64 n.nn, .string n.tx, .int .u64 n.s0, .int .u64 n.s1, .int .u64 n.s2, .int .u64 n.s3] 51)).alloc (.cells #[.int .i64 0, .int .i64 0, .string ⟨#[]⟩, .int .u64 0, .int .u64 0, .int .u64 0, .int .u64 0] 51)) 5 n.tx).setCell ⟨w.heap.size, 2, none⟩ (.string n.tx)).setCell ⟨w.heap.size + 1, 0, none⟩ (.int .i64 n.op)).setCell ⟨w.heap.size + 1, 1, none⟩ (.int .i64 n.nn)).setCell ⟨w.heap.size + 1, 2, none⟩ (.string n.tx)).setCell ⟨w.heap.size + 1, 3, none⟩ (.int .u64 n.s0)).setCell ⟨w.heap.size + 1, 4, none⟩ (.int .u64 n.s1)).setCell ⟨w.heap.size + 1, 5, none⟩ (.int .u64 n.s2)).setCell ⟨w.heap.size + 1, 6, none⟩ (.int .u64 n.s3)) = W9 at *
  clear c0 c1 c2 c3 c4 c5 c6 d0 d1 d2 d3 d4 d5 d6 g0 g1 g2 g3 g4 g5 g6 k2 f2 hc1 hc2
  obtain ⟨c0, c1, c2, c3, c4, c5, c6⟩ := HY3.out.nb
  simp only [Nat.zero_add] at c0 c1 c2 c3 c4 c5 c6
  refine bodyPost_ret (v := ndG n) (by simp [results, Tryz.results43, go_sem, c0, c1, c2, c3, c4, c5, c6]) rfl ⟨rfl, HU.out⟩
end Go.Proofs.YtkihfkcmcdiajaaGreatDoor.T

namespace Go.Proofs.YtkihfkcmcdiajaaGreatDoor.T
open Go.RowKit
structure AtC (w wr : World) (v : Value) (l : List Nd) : Prop where
  o : wr.ownsRow w.heap.size 51 7 v l.length (ndc l)
  b : Below w.heap.size w wr
end Go.Proofs.YtkihfkcmcdiajaaGreatDoor.T

namespace Go.Proofs.YtkihfkcmcdiajaaGreatDoor.T
open Go.RowKit
def bgc (L : List Nd) (k : Nat) : List Value := (List.range k).map fun j => .int .i64 (pt L j).1
def hic (L : List Nd) (k : Nat) : List Value := (List.range k).map fun j => .int .i64 (pt L j).2.2
structure AtF (L : List Nd) (w wr : World) (k : Nat) (v1 v2 : Value) : Prop where
  o1 : wr.ownsRow w.heap.size 3 1 v1 k (bgc L k)
  o2 : wr.ownsRow w.heap.size 3 1 v2 k (hic L k)
  ne : ∀ g, v1.ownBlock = some g → v2.ownBlock ≠ some g
  b : Below w.heap.size w wr
  e : ∀ j, j < k → er L j = 0
theorem AtF.below {L : List Nd} {w wr w2 : World} {k : Nat} {v1 v2 : Value} (h : AtF L w wr k v1 v2) (hb : Below wr.heap.size wr w2) : AtF L w w2 k v1 v2 :=
  ⟨own_below h.o1 hb, own_below h.o2 hb, h.ne, h.b.trans (hb.mono h.b.size), h.e⟩
theorem AtF.form {L : List Nd} {w wr : World} {k : Nat} {v1 v2 : Value} (h : AtF L w wr k v1 v2) : ∃ A1 c1 A2 c2, v1 = .slice A1 k c1 ∧ v2 = .slice A2 k c2 ∧ (0 < k → ∃ g1 g2, A1 = some ⟨g1, 0, none⟩ ∧ A2 = some ⟨g2, 0, none⟩) := by
  obtain ⟨A1, c1, e1, q1⟩ : ∃ A1 c1, v1 = .slice A1 k c1 ∧ (0 < k → ∃ g, A1 = some ⟨g, 0, none⟩) := by
    rcases h.o1.2 with ⟨a, b⟩ | ⟨g, cap, cur, a, _⟩
    · exact ⟨none, 0, by rw [a, b], fun q => by omega⟩
    · exact ⟨_, cap, a, fun _ => ⟨g, rfl⟩⟩
  obtain ⟨A2, c2, e2, q2⟩ : ∃ A2 c2, v2 = .slice A2 k c2 ∧ (0 < k → ∃ g, A2 = some ⟨g, 0, none⟩) := by
    rcases h.o2.2 with ⟨a, b⟩ | ⟨g, cap, cur, a, _⟩
    · exact ⟨none, 0, by rw [a, b], fun q => by omega⟩
    · exact ⟨_, cap, a, fun _ => ⟨g, rfl⟩⟩
  exact ⟨A1, c1, A2, c2, e1, e2, fun q => by
    obtain ⟨g1, h1⟩ := q1 q
    obtain ⟨g2, h2⟩ := q2 q
    exact ⟨g1, g2, h1, h2⟩⟩
/-- What from answers. -/
def FrV (w w' : World) (L : List Nd) (e : Ending) : Prop :=
  (∃ k, k < L.length ∧ (∀ j, j < k → er L j = 0) ∧ er L k ≠ 0 ∧ e = .returned (.tuple #[.slice none 0 0, .slice none 0 0, .int .i64 k, .int .i64 (er L k)])) ∨
  ((∀ j, j < L.length → er L j = 0) ∧ ∃ v1 v2, e = .returned (.tuple #[v1, v2, .int .i64 0, .int .i64 0]) ∧ AtF L w w' L.length v1 v2)
structure AtG (L : List Nd) (w wr : World) (k : Nat) (v1 v2 : Value) (B : Nat) (n : Nd) (gp op : Nat) : Prop where
  f : AtF L w wr k v1 v2
  x : NB wr B 0 n
  p : NdL wr gp op L
  lp : gp < w.heap.size
theorem AtG.below {L : List Nd} {w wr w2 : World} {k : Nat} {v1 v2 : Value} {B : Nat} {n : Nd} {gp op : Nat} (h : AtG L w wr k v1 v2 B n gp op) (hb : Below wr.heap.size wr w2) : AtG L w w2 k v1 v2 B n gp op :=
  ⟨h.f.below hb, h.x.below hb, h.p.same (hb.block _ (Nat.lt_of_lt_of_le h.lp h.f.b.size)), h.lp⟩
end Go.Proofs.YtkihfkcmcdiajaaGreatDoor.T

namespace Go.Proofs.YtkihfkcmcdiajaaGreatDoor.T
open Go.RowKit
/-- A cell with a list of numbers. -/
structure SB (W : World) (b : Nat) (v : Value) : Prop where
  heap : W.heap[b]? = some (.cells #[v] 66 (0, 0))
theorem SB.lt {W : World} {b : Nat} {v : Value} (x : SB W b v) : b < W.heap.size := (Array.getElem?_eq_some_iff.1 x.heap).1
theorem SB.c0 {W : World} {b : Nat} {v : Value} (x : SB W b v) : W.cell? ⟨b, 0, none⟩ = some v := by rw [cell_of_row W b 0 _ 66 (0, 0) x.heap]; rfl
theorem SB.fz {W : World} {b : Nat} {v : Value} (x : SB W b v) : W.frozen? ⟨b, 0, none⟩ = false := frozen_of_row W b 0 _ 66 x.heap
theorem SB.same {W W' : World} {b : Nat} {v : Value} (x : SB W b v) (hb : W'.heap[b]? = W.heap[b]?) : SB W' b v := ⟨hb.trans x.heap⟩
theorem SB.set {W : World} {b : Nat} {v : Value} (x : SB W b v) (u : Value) : SB (W.setCell ⟨b, 0, none⟩ u) b u := ⟨by rw [heap_setCell_same W b 0 _ 66 _ x.heap]; rfl⟩

def lastc (xs : List Pt) : List Value := xs.map fun x => .int .i64 x.2.1
theorem lastc_len (xs : List Pt) : (lastc xs).length = xs.length := List.length_map _
/-- What find has found. -/
structure JF (L : List Nd) (at' : Int) (b3 b7 b8 Bc B k : Nat) (X : Nat → Prop) (w : World) : Prop where
  far : Bc ≤ b7 ∧ Bc ≤ b8 ∧ b3 < B ∧ b7 < B ∧ b8 < B ∧ b7 ≠ b8 ∧ b3 ≠ b7 ∧ b3 ≠ b8 ∧ Bc ≤ B
  a : w.cell? ⟨b3, 0, none⟩ = some (.int .i64 at')
  f : ∀ j : Nat, at' = j → j < k → PB w b7 (pt L j).1 (pt L j).2.1 (pt L j).2.2
  f0 : (∀ j : Nat, at' = j → ¬ j < k) → PB w b7 0 0 0
  s : ∃ v, SB w b8 v ∧ (∀ b, X b ↔ b = b7 ∨ b = b8 ∨ v.ownBlock = some b) ∧
    (∀ j : Nat, at' = j → j < k → w.ownsRow B 3 1 v (arN (opAt L j)) (lastc ((run L j).take (arN (opAt L j))).reverse)) ∧ ((∀ j : Nat, at' = j → ¬ j < k) → v = .slice none 0 0)
theorem JF.size {L : List Nd} {at' : Int} {b3 b7 b8 Bc B k : Nat} {X : Nat → Prop} {w : World} (h : JF L at' b3 b7 b8 Bc B k X w) : b3 < w.heap.size ∧ b7 < w.heap.size ∧ b8 < w.heap.size := by
  obtain ⟨v, hs, _⟩ := h.s
  refine ⟨World.block_lt_of_cell? w _ h.a, ?_, hs.lt⟩
  by_cases q : ∃ j : Nat, at' = j ∧ j < k
  · obtain ⟨j, q1, q2⟩ := q
    exact (h.f j q1 q2).lt
  · exact (h.f0 (fun j q1 q2 => q ⟨j, q1, q2⟩)).lt
theorem JF.kept {L : List Nd} {at' : Int} {b3 b7 b8 Bc B k : Nat} {X : Nat → Prop} {w w' : World} (h : JF L at' b3 b7 b8 Bc B k X w) (hb : ∀ b, (b < B ∨ X b) → w'.heap[b]? = w.heap[b]?) : JF L at' b3 b7 b8 Bc B k X w' := by
  obtain ⟨v, hs, hx, h1, h2⟩ := h.s
  obtain ⟨f1, f2, f3, f4, f5, _, _, _, f9⟩ := h.far
  refine ⟨h.far, (World.cell?_of_block (a := ⟨b3, 0, none⟩) (hb b3 (.inl f3))).trans h.a, fun j q1 q2 => (h.f j q1 q2).same (hb b7 (.inl f4)), fun q => (h.f0 q).same (hb b7 (.inl f4)), v, hs.same (hb b8 (.inl f5)), hx, fun j q1 q2 => ?_, h2⟩
  have ho := h1 j q1 q2
  refine ⟨ho.1, ?_⟩
  rcases ho.2 with q | ⟨g, cap, cur, rfl, r1, r2, rest⟩
  · exact .inl q
  · exact .inr ⟨g, cap, cur, rfl, r1, (hb g (.inr ((hx g).2 (.inr (.inr rfl))))).trans r2, rest⟩
/-- The next node is another one. -/
theorem JF.next {L : List Nd} {at' : Int} {b3 b7 b8 Bc B k : Nat} {X : Nat → Prop} {w : World} (h : JF L at' b3 b7 b8 Bc B k X w) (hne : at' ≠ k) : JF L at' b3 b7 b8 Bc B (k + 1) X w := by
  obtain ⟨v, hs, hx, h1, h2⟩ := h.s
  have key : ∀ j : Nat, at' = j → j < k + 1 → j < k := fun j q1 q2 => by omega
  refine ⟨h.far, h.a, fun j q1 q2 => h.f j q1 (key j q1 q2), fun q => h.f0 (fun j q1 q2 => q j q1 (by omega)), v, hs, hx, fun j q1 q2 => h1 j q1 (key j q1 q2), fun q => h2 (fun j q1 q2 => q j q1 (by omega))⟩
end Go.Proofs.YtkihfkcmcdiajaaGreatDoor.T

namespace Go.Proofs.YtkihfkcmcdiajaaGreatDoor.T
open Go.RowKit
theorem own_base {w : World} {a b e size : Nat} {v : Value} {n : Nat} {xs : List Value} (h : w.ownsRow b e size v n xs) (hab : a ≤ b) : w.ownsRow a e size v n xs := by
  obtain ⟨h1, h2⟩ := h
  refine ⟨h1, ?_⟩
  rcases h2 with h2 | ⟨g, cap, cur, h3, h4, h5⟩
  · exact .inl h2
  · exact .inr ⟨g, cap, cur, h3, Nat.le_trans hab h4, h5⟩
def fdE (L : List Nd) (at' : Int) : Int := if (ck L).2 ≠ 0 then (ck L).2 else if at' < 0 ∨ (L.length : Int) ≤ at' then 1 else 0
/-- A list of numbers that is an answer. -/
def PsV (w w' : World) (L : List Nd) (at' : Int) (e : Ending) : Prop := ∃ v, e = .returned (.tuple #[v, .int .i64 (fdE L at')]) ∧ ((fdE L at' ≠ 0 ∧ v = .slice none 0 0) ∨ (fdE L at' = 0 ∧ w'.ownsRow w.heap.size 3 1 v (arN (opAt L at'.toNat)) (lastc ((run L at'.toNat).take (arN (opAt L at'.toNat))).reverse)))
end Go.Proofs.YtkihfkcmcdiajaaGreatDoor.T

namespace Go.Proofs.YtkihfkcmcdiajaaGreatDoor.T
open Go.RowKit
theorem FrV.ok {w w' : World} {L : List Nd} {e : Ending} (h : FrV w w' L e) (hr : Rt L) : ∃ v1 v2, e = .returned (.tuple #[v1, v2, .int .i64 0, .int .i64 0]) ∧ AtF L w w' L.length v1 v2 := by
  rcases h with ⟨k, hk, _, h2, _⟩ | ⟨_, h⟩
  · exact absurd (hr.each k hk) h2
  · exact h
end Go.Proofs.YtkihfkcmcdiajaaGreatDoor.T

namespace Go.Proofs.YtkihfkcmcdiajaaGreatDoor.T
open Go.RowKit
/-- A part of a list. -/
def cutL (L : List Nd) (b e : Nat) : List Nd := (L.drop b).take (e - b)
/-- A pattern that is an answer. -/
def PrV (w w' : World) (L : List Nd) (at' : Int) (e : Ending) : Prop := ∃ v, e = .returned (.tuple #[v, .int .i64 (fdE L at')]) ∧ ((fdE L at' ≠ 0 ∧ v = .slice none 0 0) ∨ (fdE L at' = 0 ∧ w'.ownsRow w.heap.size 51 7 v (cutL L (pt L at'.toNat).1 (at'.toNat + 1)).length (ndc (cutL L (pt L at'.toNat).1 (at'.toNat + 1)))))
end Go.Proofs.YtkihfkcmcdiajaaGreatDoor.T

namespace Go.Proofs.YtkihfkcmcdiajaaGreatDoor.T
open Go.RowKit
def prE (L : List Nd) (at' : Int) : List Nd := if fdE L at' = 0 then cutL L (pt L at'.toNat).1 (at'.toNat + 1) else []
def psE (L : List Nd) (at' : Int) : List Int := if fdE L at' = 0 then (((run L at'.toNat).take (arN (opAt L at'.toNat))).reverse).map (fun p => (p.2.1 : Int)) else []
theorem PrV.row {w w' : World} {L : List Nd} {at' : Int} {e : Ending} (h : PrV w w' L at' e) : ∃ v, e = .returned (.tuple #[v, .int .i64 (fdE L at')]) ∧ w'.ownsRow w.heap.size 51 7 v (prE L at').length (ndc (prE L at')) := by
  obtain ⟨v, he, h⟩ := h
  refine ⟨v, he, ?_⟩
  unfold prE
  rcases h with ⟨h0, rfl⟩ | ⟨h0, h1⟩
  · rw [if_neg h0]; exact World.ownsRow_nil _ _ _ _
  · rw [if_pos h0]; exact h1
theorem PsV.row {w w' : World} {L : List Nd} {at' : Int} {e : Ending} (h : PsV w w' L at' e) : ∃ v, e = .returned (.tuple #[v, .int .i64 (fdE L at')]) ∧ w'.ownsRow w.heap.size 3 1 v (psE L at').length ((psE L at').map fun x => .int .i64 x) := by
  obtain ⟨v, he, h⟩ := h
  refine ⟨v, he, ?_⟩
  unfold psE
  rcases h with ⟨h0, rfl⟩ | ⟨h0, h1⟩
  · rw [if_neg h0]; exact World.ownsRow_nil _ _ _ _
  · rw [if_pos h0]
    have e1 : (((run L at'.toNat).take (arN (opAt L at'.toNat))).reverse.map (fun p => (p.2.1 : Int))).map (fun x => Value.int .i64 x) = lastc ((run L at'.toNat).take (arN (opAt L at'.toNat))).reverse := by
      unfold lastc
      rw [List.map_map]
      rfl
    have hl := h1.1
    rw [e1, List.length_map]
    rw [lastc_len, Nat.mul_one] at hl
    rw [hl]
    exact h1
theorem own_rd {W : World} {B n : Nat} {v : Value} {L : List Nd} (h : W.ownsRow B 51 7 v n (ndc L)) (hn : n = L.length) : ∃ A c, v = .slice A L.length c ∧ RdN W A L := by
  subst hn
  have hc := h
  rcases h.2 with ⟨rfl, h0⟩ | ⟨g, cap, cur, rfl, _⟩
  · exact ⟨none, 0, by rw [h0], fun hl => absurd (List.eq_nil_of_length_eq_zero h0) hl⟩
  · have hc2 : W.ownsRow B 51 7 (.slice (some ⟨g, 0, none⟩) L.length cap) L.length (ndc L ++ []) := by rw [List.append_nil]; exact hc
    exact ⟨_, cap, rfl, fun _ => ⟨g, 0, rfl, (hc.lt g rfl).2, own_ndl hc2⟩⟩
end Go.Proofs.YtkihfkcmcdiajaaGreatDoor.T

namespace Go.Proofs.YtkihfkcmcdiajaaGreatDoor.T
open Go.RowKit
/-- A whole that is right, or why not. -/
def RiV (_w w' : World) (B : Nat) (L : List Nd) (v : Value) (e : Ending) : Prop := ((ck L).2 ≠ 0 ∧ e = .returned (.tuple #[.slice none 0 0, .int .i64 (ck L).2])) ∨ ((ck L).2 = 0 ∧ e = .returned (.tuple #[v, .int .i64 0]) ∧ w'.ownsRow B 51 7 v L.length (ndc L))
end Go.Proofs.YtkihfkcmcdiajaaGreatDoor.T

namespace Go.Proofs.YtkihfkcmcdiajaaGreatDoor.T
open Go.RowKit
/-- Another pattern in a part's place. -/
def putL (L : List Nd) (j : Nat) (M : List Nd) : List Nd := L.take (pt L j).1 ++ (M ++ L.drop (j + 1))
def puE (L : List Nd) (at' : Int) (M : List Nd) : Int := if fdE L at' ≠ 0 then fdE L at' else if (ck M).2 ≠ 0 then (ck M).2 else (ck (putL L at'.toNat M)).2
def puL (L : List Nd) (at' : Int) (M : List Nd) : List Nd := if puE L at' M = 0 then putL L at'.toNat M else []
def PuV (w w' : World) (L : List Nd) (at' : Int) (M : List Nd) (e : Ending) : Prop := ∃ v, e = .returned (.tuple #[v, .int .i64 (puE L at' M)]) ∧ w'.ownsRow w.heap.size 51 7 v (puL L at' M).length (ndc (puL L at' M))
theorem PuV.end {w w' : World} {L M : List Nd} {at' : Int} {j : Nat} (hj : at' = j) (h : fdE L at' = 0) (h2 : (ck M).2 = 0) {v : Value} (hv : w'.ownsRow w.heap.size 51 7 v (if (ck (putL L j M)).2 = 0 then putL L j M else []).length (ndc (if (ck (putL L j M)).2 = 0 then putL L j M else []))) : PuV w w' L at' M (.returned (.tuple #[v, .int .i64 (ck (putL L j M)).2])) := by
  have e0 : at'.toNat = j := by omega
  have e : puE L at' M = (ck (putL L j M)).2 := by unfold puE; rw [if_neg (by rw [h]; simp), if_neg (by rw [h2]; simp), e0]
  refine ⟨v, by rw [e], ?_⟩
  unfold puL
  rw [e, e0]
  exact hv
theorem RiV.row {w w' : World} {B : Nat} {L : List Nd} {v : Value} {e : Ending} (h : RiV w w' B L v e) : ∃ u, e = .returned (.tuple #[u, .int .i64 (ck L).2]) ∧ w'.ownsRow B 51 7 u (if (ck L).2 = 0 then L else []).length (ndc (if (ck L).2 = 0 then L else [])) := by
  rcases h with ⟨h0, h1⟩ | ⟨h0, h1, h2⟩
  · rw [if_neg h0]
    exact ⟨_, h1, World.ownsRow_nil _ _ _ _⟩
  · rw [if_pos h0, h0]
    exact ⟨_, h1, h2⟩
end Go.Proofs.YtkihfkcmcdiajaaGreatDoor.T

namespace Go.Proofs.YtkihfkcmcdiajaaGreatDoor.N
open Go.RowKit
theorem Fr.drew {W W' : World} {b : Nat} {v v' : Value} (h : Fr W.drew W' b v v') : Fr W W' b v v' := (Fr.below b v (Below.refl _ _).drew).trans h
end Go.Proofs.YtkihfkcmcdiajaaGreatDoor.N
