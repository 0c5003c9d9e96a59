/- The law TokenCovers of layer 5 holds at every text: tokens stand one behind the other, with blanks and comments alone between, ahead and behind, and each one's bytes alone are read as it; the program's table of signs lies as its text lays it. -/
import Derived.Test.YthffklhojdldkaaDoorCv09
namespace Go.Proofs.YthffklhojdldkaaDoor
open Go.RowKit
theorem lexGo_no (s : ByteArray) : ∀ (f : Nat) (out : List Tk) (i : Nat) (q : Nat × Int), lexGo (oneP s) s f out i = .inr q → q.2 ≠ 0 := by
  intro f
  induction f with
  | zero => intro out i q h; rw [lexGo] at h; cases h
  | succ f ih =>
    intro out i q h
    rw [lexGo] at h
    split at h
    · cases ho : oneP s i with
      | inr p => rw [ho] at h; cases h; exact oneP_no s i _ ho
      | inl t => rw [ho] at h; exact ih _ _ _ h
    · cases h
theorem lexR_no {s : ByteArray} {q : Nat × Int} (h : lexR (oneP s) s = .inr q) : q.2 ≠ 0 := by
  unfold lexR at h
  split at h
  · cases h; simp
  · exact lexGo_no s _ _ _ _ h
theorem chn_get {s : ByteArray} : ∀ {l : List Tk} {i : Nat}, i ≤ s.size → Chn s i l → ∀ (k : Nat) t, l[k]? = some t → ∃ j m : Nat, j ≤ s.size ∧ gapN s j < s.size ∧ oneP s (gapN s j) = .inl t ∧ t.fr = (gapN s j : Nat) ∧ t.en = (gapN s j + m : Nat) ∧ 1 ≤ m ∧ gapN s j + m ≤ s.size := by
  intro l
  induction l with
  | nil => intro i _ _ k t h; simp at h
  | cons a l ih =>
    intro i hi hc k t h
    obtain ⟨h1, h2, e, e1, e2, e3, h3⟩ := hc
    cases k with
    | zero =>
      have h : a = t := by simpa using h
      subst h
      exact ⟨i, e - gapN s i, hi, h1, h2, oneP_fr h2, by rw [e1]; omega, by omega, by omega⟩
    | succ k => exact ih e3 h3 k t (by simpa using h)
set_option maxRecDepth 100000 in
set_option maxHeartbeats 8000000 in
theorem covers_err (s : ByteArray) (q : Nat × Int) (h : lexR (oneP s) s = .inr q) (w : World) (hg : SG w) : Calls Tryd.prog 4 #[.string s] w fun e w' => e = .returned (.bool true) ∧ Below w.heap.size w w' := by
  have HWk : Hid (∀ w, SG w → Calls Tryd.prog 10 #[] w fun e w' => e = .returned (.bool true) ∧ Below w.heap.size w w') := fun w g => works_any w g
  have HG := (show Hid (SG w) from hg)
  have HL : Hid (∀ w, SG w → Calls Tryd.prog 7 #[.string s] w fun e' w' => e' = .returned (.tuple #[.slice none 0 0, .agg #[.int .i64 q.1, .int .i64 q.2]]) ∧ Below w.heap.size w w') := fun w g => by
    have h1 := lexP_any s w g
    rw [h] at h1
    exact h1
  have hne := lexR_no h
  have e1 := eq26 q.1 q.2 0 0
  have v1 : ((q.1 : Int) == 0 && q.2 == 0) = false := by rw [beq_eq_false_iff_ne.2 hne, Bool.and_false]
  rw [v1] at e1
  clear hg h hne v1
  go_enter Tryd.func4, Tryd.ntmps4
  go_wp2_with fail
  refine (HWk.out _ HG.out).mono ?_
  rintro e w1 ⟨rfl, b1⟩
  have HG1 := (show Hid (SG w1) from HG.out.later b1)
  have HB1 := (show Hid (Below w.heap.size w w1) from b1)
  clear b1 HWk HG
  go_wp2_with fail
  refine (HL.out _ HG1.out).mono ?_
  rintro e w2 ⟨rfl, b2⟩
  have HB2 := (show Hid (Below w.heap.size w w2) from HB1.out.trans (b2.mono HB1.out.size))
  clear b2 HB1 HG1 HL
  go_wp2_with fail
  go_ret
  exact ⟨rfl, HB2.out.alloc HB2.out.size _⟩
theorem chn_len {s : ByteArray} : ∀ {l : List Tk} {i : Nat}, i ≤ s.size → Chn s i l → l.length ≤ s.size - i := by
  intro l
  induction l with
  | nil => intro i _ _; simp
  | cons a l ih =>
    intro i hi hc
    obtain ⟨h1, h2, e, e1, e2, e3, h3⟩ := hc
    have := ih e3 h3
    have := gapN_ge s i hi
    rw [List.length_cons]; omega
/-- While the law goes through the tokens. -/
structure AtV (w wB wr : World) : Prop where
  b : Below w.heap.size w wr
  c : Below wB.heap.size wB wr
theorem AtV.step {w wB wr W : World} (h : AtV w wB wr) (hb : Below wr.heap.size wr W) : AtV w wB W := ⟨h.b.trans (hb.mono h.b.size), h.c.trans (hb.mono h.c.size)⟩
theorem rdt_one {W : World} (t : Tk) : RdT (W.alloc (tkO t)) (some ⟨W.heap.size, 0, none⟩) [t] := ⟨fun _ => ⟨W.heap.size, rfl, by rw [World.size_alloc]; omega, fun k u hk => by
  have hk0 : k = 0 := by
    have := (List.getElem?_eq_some_iff.1 hk).1
    simp at this; exact this
  subst hk0
  have hu : t = u := by simpa using hk
  subst hu
  obtain ⟨c0, c1, c2, c3, c4, c5, c6, c7, c8⟩ := (TX.new W t).cells
  exact ⟨c0, c1, c2, c3, c4, c5, c6, c7, c8⟩⟩⟩
set_option maxRecDepth 100000 in
set_option maxHeartbeats 16000000 in
theorem covers_ok (s : ByteArray) (l : List Tk) (h : lexR (oneP s) s = .inl l) (w : World) (hg : SG w) : Calls Tryd.prog 4 #[.string s] w fun e w' => e = .returned (.bool true) ∧ Below w.heap.size w w' := by
  obtain ⟨hs, hch⟩ := lex_chn h
  have HWk : Hid (∀ w, SG w → Calls Tryd.prog 10 #[] w fun e w' => e = .returned (.bool true) ∧ Below w.heap.size w w') := fun w g => works_any w g
  have HG := (show Hid (SG w) from hg)
  have HL : Hid (∀ w, SG w → Calls Tryd.prog 7 #[.string s] w fun e' w' => (∃ v, e' = .returned (.tuple #[v, .agg #[.int .i64 0, .int .i64 0]]) ∧ w'.ownsRow w.heap.size 36 9 v l.length (tkc l)) ∧ Below w.heap.size w w') := fun w g => by
    have h1 := lexP_any s w g
    rw [h] at h1
    exact h1
  have hll : l.length ≤ s.size := by have := chn_len (Nat.zero_le _) hch; omega
  have e1 := eq26 0 0 0 0
  have HC := (show Hid (Chn s 0 l) from hch)
  clear hg h hch
  go_enter Tryd.func4, Tryd.ntmps4
  go_wp2_with fail
  refine (HWk.out _ HG.out).mono ?_
  rintro e w1 ⟨rfl, b1⟩
  have HG1 := (show Hid (SG w1) from HG.out.later b1)
  have HB1 := (show Hid (Below w.heap.size w w1) from b1)
  clear b1 HWk
  go_wp2_with fail
  refine (HL.out _ HG1.out).mono ?_
  rintro e w2 ⟨⟨v, rfl, ho⟩, b2⟩
  obtain ⟨A, cp, rfl, hr⟩ := own_rdt ho rfl
  have HB2 := (show Hid (AtV w (w2.alloc (fxO 0 0)) (w2.alloc (fxO 0 0))) from ⟨(HB1.out.trans (b2.mono HB1.out.size)).alloc (Nat.le_trans HB1.out.size b2.size) _, Below.refl _ _⟩)
  have HR2 := (show Hid (RdT (w2.alloc (fxO 0 0)) A l) from hr.later (below_box _ _))
  clear b2 HB1 HG1 HL ho hr
  go_wp2_with fail
  generalize w2.alloc (fxO 0 0) = wB at *
  go_loopw [5, 27] (fun a t wr => ∃ k i : Nat, k ≤ l.length ∧ i ≤ s.size ∧ t = .int .i64 k ∧ a = .int .i64 i ∧ Hid (AtV w wB wr) ∧ Hid (Chn s i (l.drop k))) (fun _ t _ => l.length - (intOf t).toNat)
  case atStart => exact ⟨0, 0, by omega, by omega, by go_num, by go_num, HB2, HC⟩
  case round =>
    obtain ⟨k, i, hk, hi, rfl, rfl, HW, HD⟩ := hrel
    clear HB2
    by_cases hlt : k < l.length
    · obtain ⟨t, ht⟩ : ∃ t, l[k]? = some t := ⟨_, List.getElem?_eq_getElem hlt⟩
      have hdr : l.drop k = t :: l.drop (k + 1) := by
        obtain ⟨h1, h2⟩ := List.getElem?_eq_some_iff.1 ht
        rw [List.drop_eq_getElem_cons h1, h2]
      rw [hdr] at HD
      obtain ⟨d1, d2, en, d3, d4, d5, d6⟩ := HD.out
      have d7 := oneP_fr d2
      have hge := gapN_ge s i hi
      have HBl : Hid (∀ w, Calls Tryd.prog 11 #[.string (s.extract i (gapN s i))] w fun e w' => e = .returned (.bool true) ∧ w' = w) := fun w => blank_any _ (by rw [ByteArray.size_extract]; omega) (gap_ext hi rfl) w
      generalize gapN s i = b0 at *
      have HD2 := (show Hid (Chn s en (l.drop (k + 1))) from d6)
      obtain ⟨g, rfl, glt, hc⟩ := (HR2.out.later HW.out.c).rd (by rintro rfl; simp at ht)
      obtain ⟨a0, a1, a2, a3, a4, a5, a6, a7, a8⟩ := hc k t ht
      obtain ⟨kd, nn, tf, te, tx, s0, s1, s2, s3⟩ := t
      dsimp only at d3 d7 a0 a1 a2 a3 a4 a5 a6 a7 a8
      subst d3 d7
      have z0 : (0 : Int) ≤ (k : Int) := by omega
      have z1 : (k : Int) < (l.length : Int) := by omega
      have y0 : ¬ (b0 : Int) < (i : Int) := by omega
      have y1 : ¬ (en : Int) ≤ (b0 : Int) := by omega
      have y2 : ¬ (s.size : Int) < (en : Int) := by omega
      have y3 : (0 : Int) ≤ (i : Int) := by omega
      have y4 : (i : Int) ≤ (b0 : Int) := by omega
      have y5 : (b0 : Int) ≤ (s.size : Int) := by omega
      clear HC HD d1 d2 d4 d6 hdr ht hc HR2 HG
      go_wp2_with fail
      refine (HBl.out _).mono ?_
      rintro e w3 ⟨rfl, hw3⟩
      have HX3 := (show Hid (TX w3 wr.heap.size ⟨kd, nn, b0, en, tx, s0, s1, s2, s3⟩) from by rw [hw3]; exact TX.new wr ⟨kd, nn, b0, en, tx, s0, s1, s2, s3⟩)
      have HW3 := (show Hid (AtV w wB w3) from by rw [hw3]; exact HW.out.step (below_box _ _))
      clear hw3 HW HBl a0 a1 a2 a3 a4 a5 a6 a7 a8
      have c3 := HX3.out.cells.c3
      dsimp only at c3
      clear HX3
      go_wp2_with fail
      go_roundw
      case rel => exact ⟨k + 1, en, by omega, d5, by go_num, rfl, HW3, HD2⟩
      case measure => simp [intOf]; omega
    · obtain rfl : k = l.length := by omega
      have HD : Hid (gapN s i = s.size) := by
        have h := HD.out
        rw [List.drop_length] at h
        exact h
      have HBl : Hid (∀ w, Calls Tryd.prog 11 #[.string (s.extract i s.size)] w fun e w' => e = .returned (.bool true) ∧ w' = w) := fun w => blank_any _ (by rw [ByteArray.size_extract]; omega) (gap_ext hi HD.out) w
      have y3 : (0 : Int) ≤ (i : Int) := by omega
      have y4 : (i : Int) ≤ (s.size : Int) := by omega
      have z1 : ¬ (l.length : Int) < (l.length : Int) := by omega
      have HGe := (show Hid (∀ (k : Nat) t, l[k]? = some t → ∃ j m : Nat, j ≤ s.size ∧ gapN s j < s.size ∧ oneP s (gapN s j) = .inl t ∧ t.fr = (gapN s j : Nat) ∧ t.en = (gapN s j + m : Nat) ∧ 1 ≤ m ∧ gapN s j + m ≤ s.size) from chn_get (Nat.zero_le _) HC.out)
      clear HC HD
      go_wp2_with fail
      refine (HBl.out _).mono ?_
      rintro e w3 ⟨rfl, rfl⟩
      clear HBl
      go_wp2_with fail
      go_loopw [68] (fun t wr => ∃ k : Nat, k ≤ l.length ∧ t = .int .i64 k ∧ Hid (AtV w wB wr)) (fun t _ => l.length - (intOf t).toNat)
      case atStart => exact ⟨0, by omega, by go_num, HW⟩
      case round =>
        obtain ⟨k, hk, rfl, HW⟩ := hrel
        by_cases hlt : k < l.length
        · by_cases h100 : k = 100
          · have v1 : ((k : Int) == 100) = true := by rw [h100]; rfl
            obtain ⟨t, ht⟩ : ∃ t, l[k]? = some t := ⟨_, List.getElem?_eq_getElem hlt⟩
            obtain ⟨g, rfl, glt, hc⟩ := (HR2.out.later HW.out.c).rd (by rintro rfl; simp at ht)
            obtain ⟨a0, a1, a2, a3, a4, a5, a6, a7, a8⟩ := hc k t ht
            have z0 : (0 : Int) ≤ (k : Int) := by omega
            have z1 : (k : Int) < (l.length : Int) := by omega
            clear HGe HR2 HG hc ht h100
            go_wp2_with fail
            go_ret
            exact ⟨rfl, HW.out.b.alloc HW.out.b.size _⟩
          · have v1 : ((k : Int) == 100) = false := by rw [beq_eq_false_iff_ne]; omega
            obtain ⟨t, ht⟩ : ∃ t, l[k]? = some t := ⟨_, List.getElem?_eq_getElem hlt⟩
            obtain ⟨j, m, j1, j2, j3, j4, j5, j6, j7⟩ := HGe.out k t ht
            have hal := alone_chn j1 j2 j3 j5
            have hsz : (s.extract (gapN s j) (gapN s j + m)).size = m := by rw [ByteArray.size_extract]; omega
            have HLx : Hid (∀ w, SG w → Calls Tryd.prog 7 #[.string (s.extract (gapN s j) (gapN s j + m))] w fun e' w' => (∃ v, e' = .returned (.tuple #[v, .agg #[.int .i64 0, .int .i64 0]]) ∧ w'.ownsRow w.heap.size 36 9 v 1 (tkc [mvT t 0 m])) ∧ Below w.heap.size w w') := fun w g => by
              have h1 := lexP_any (s.extract (gapN s j) (gapN s j + m)) w g
              rw [lex_of_chn (by omega) hal] at h1
              exact h1
            obtain ⟨g, rfl, glt, hc⟩ := (HR2.out.later HW.out.c).rd (by rintro rfl; simp at ht)
            obtain ⟨a0, a1, a2, a3, a4, a5, a6, a7, a8⟩ := hc k t ht
            generalize gapN s j = b0 at *
            obtain ⟨en, hen⟩ : ∃ en, en = b0 + m := ⟨_, rfl⟩
            rw [← hen] at HLx j5 j7
            obtain ⟨kd, nn, tf, te, tx, s0, s1, s2, s3⟩ := t
            dsimp only at j4 j5 a0 a1 a2 a3 a4 a5 a6 a7 a8
            subst j4 j5
            have z0 : (0 : Int) ≤ (k : Int) := by omega
            have z1 : (k : Int) < (l.length : Int) := by omega
            have y3 : (0 : Int) ≤ (b0 : Int) := by omega
            have y4 : (b0 : Int) ≤ (en : Int) := by omega
            have y5 : (en : Int) ≤ (s.size : Int) := by omega
            have HG0 := (show Hid (SG (wr.alloc (tkO ⟨kd, nn, b0, en, tx, s0, s1, s2, s3⟩))) from (HG.out.below HW.out.b HG.out.lt).later (below_box _ _))
            clear HGe hc ht j3 hal hsz hen j2
            go_wp2_with fail
            refine (HLx.out _ HG0.out).mono ?_
            rintro e w4 ⟨⟨v, rfl, ho⟩, b4⟩
            obtain ⟨A2, cp2, rfl, hr⟩ := own_rdt ho rfl
            have HW4 := (show Hid (AtV w wB (w4.alloc (fxO 0 0))) from ((HW.out.step (below_box _ _)).step b4).step (below_box _ _))
            have HX4 := (show Hid (TX (w4.alloc (fxO 0 0)) wr.heap.size ⟨kd, nn, b0, en, tx, s0, s1, s2, s3⟩) from ((TX.new wr ⟨kd, nn, b0, en, tx, s0, s1, s2, s3⟩).below b4).below (below_box _ _))
            have HR4 := (show Hid (RdT (w4.alloc (fxO 0 0)) A2 [mvT ⟨kd, nn, b0, en, tx, s0, s1, s2, s3⟩ 0 m]) from hr.later (below_box _ _))
            have HF4 := (show Hid (FX (w4.alloc (fxO 0 0)) w4.heap.size 0 0) from ⟨heap_alloc_new w4 _⟩)
            clear ho b4 hr HW HLx HG0 a0 a1 a2 a3 a4 a5 a6 a7 a8
            obtain ⟨c0, c1, c2, c3, c4, c5, c6, c7, c8⟩ := HX4.out.cells
            dsimp only at c0 c1 c2 c3 c4 c5 c6 c7 c8
            have k0 := HF4.out.c0
            have k1 := HF4.out.c1
            have HAl : Hid (∀ _ : Unit, Calls Tryd.prog 12 #[.slice A2 1 cp2, .slice (some ⟨w4.heap.size + 1, 0, none⟩) 1 1] ((w4.alloc (fxO 0 0)).alloc (tkO ⟨kd, nn, b0, en, tx, s0, s1, s2, s3⟩)) fun e w' => e = .returned (.bool true) ∧ Below ((w4.alloc (fxO 0 0)).alloc (tkO ⟨kd, nn, b0, en, tx, s0, s1, s2, s3⟩)).heap.size ((w4.alloc (fxO 0 0)).alloc (tkO ⟨kd, nn, b0, en, tx, s0, s1, s2, s3⟩)) w') := fun _ => by
              have h2 := rdt_one (W := w4.alloc (fxO 0 0)) ⟨kd, nn, b0, en, tx, s0, s1, s2, s3⟩
              rw [World.size_alloc] at h2
              exact alike_any A2 _ cp2 1 [mvT ⟨kd, nn, b0, en, tx, s0, s1, s2, s3⟩ 0 m] [⟨kd, nn, b0, en, tx, s0, s1, s2, s3⟩] rfl (by simp) _ (HR4.out.later (below_box _ _)) h2
            clear HR4 HF4 HX4
            go_wp2_with fail
            refine (HAl.out ()).mono ?_
            rintro e w5 ⟨rfl, b5⟩
            have HW5 := (show Hid (AtV w wB w5) from (HW4.out.step (below_box _ _)).step b5)
            clear HAl b5 HW4 c0 c1 c2 c3 c4 c5 c6 c7 c8 k0 k1
            go_wp2_with fail
            go_roundw
            case rel => exact ⟨k + 1, by omega, by go_num, HW5⟩
            case measure => simp [intOf]; omega
        · obtain rfl : k = l.length := by omega
          have z1 : ¬ (l.length : Int) < (l.length : Int) := by omega
          clear HGe HR2 HG
          go_wp2_with fail
          go_ret
          exact ⟨rfl, HW.out.b⟩
theorem covers_any (s : ByteArray) (w : World) (hg : SG w) : Calls Tryd.prog 4 #[.string s] w fun e w' => e = .returned (.bool true) ∧ Below w.heap.size w w' := by
  cases h : lexR (oneP s) s with
  | inr q => exact covers_err s q h w hg
  | inl l => exact covers_ok s l h w hg
end Go.Proofs.YthffklhojdldkaaDoor

namespace Go.Proofs.YthffklhojdldkaaDoor
open Go.ChangeShapes Go.WideShapes Go.ChangeAt Go.RowKit
open Go.ChangeMaps (open_string shut_string)
set_option maxRecDepth 100000 in
theorem tokenCovers_contract (H : Type) (enc : TypeId × Value → H) (W : World) (base : Nat) (args : Array Value) (ds gs : List (DataW H)) (before : List MemPlace)
    (hval0 : ∀ (j : Nat) t v, Tryd.f4.params[j]? = some t → args[j]? = some v → Value.okWide Tryd.prog W .any base t v)
    (hW : DataW.Whole enc Tryd.prog Tryd.f4.params.toList Rows.tokenCoversSpec.vars false W args.toList ds gs before) (hvb : SG W)
    (hsz : (DataW.weightsEach Tryd.prog (Tryd.f4.params.toList ++ (OpenSpec.ofChange Rows.tokenCoversSpec).bare.plain.varTypes Tryd.prog) (ds ++ gs)).all (· ≤ reachBytes) = true) :
    Calls Tryd.prog 4 args W fun e W' => ∃ v, e = .returned v ∧ Rows.tokenCoversSpec.post enc Tryd.prog Tryd.f4 false true false false W args v W' := by
  have hval : ∀ (j : Nat) t v, Tryd.f4.params[j]? = some t → args[j]? = some v → Value.okWide Tryd.prog W .any base t v := hval0
  have hW' := hW
  obtain ⟨p, q, hA0, hV, rfl, hfz, hnd⟩ := hW
  have hA : DataW.TrodAll enc Tryd.prog W 0 (fun _ => true) true Tryd.f4.params.toList args.toList ds p := hA0
  rw [Tryd.params4] at hA hval hsz
  obtain ⟨v1, d1, rfl, rfl, h1⟩ := trodAll_one hA
  obtain ⟨rfl, rfl⟩ := trodVars_none hV
  obtain ⟨s1, rfl, rfl, rfl, hs1⟩ := open_string Tryd.underlying9 (hval 0 9 v1 rfl rfl) h1
  clear hA0 hval0
  refine (covers_any s1 W hvb).mono fun e W' ⟨he, bel⟩ => ?_
  subst he
  exact ⟨_, rfl, _, _, _, [], _, [], hW', trodAll_mk1 (shut_bool Tryd.underlying4 _), (trodAll_cons_mk (shut_string Tryd.underlying9 hs1) trodAll_mk0), rfl, bel.frame _, fun h => by cases h⟩

theorem tokenCovers_met (os : Os) : laidMet Tryd.prog Rows.tokenCoversRow.laid ((layTab (World.holding Tryd.prog os ⟨#[], #[], []⟩)).forCall (fun _ _ => 0) ⟨#[], #[.string ByteArray.empty], []⟩).memory :=
  laidMet_of_run' 8 (by kernel_rfl) (by kernel_rfl)
theorem tokenCovers_reads (os : Os) {H : Type} (enc : TypeId × Value → H) : ∃ places, DataW.whole enc Tryd.prog ((layTab (World.holding Tryd.prog os ⟨#[], #[], []⟩)).forCall (fun _ _ => 0) ⟨#[], #[.string ByteArray.empty], []⟩).memory Tryd.f4.params.toList Rows.tokenCoversSpec.vars false (#[.string ByteArray.empty] : Array Value).toList 8 = some ([.lit (.string [])], [], places) :=
  ⟨[], by kernel_rfl⟩

set_option maxRecDepth 100000 in
theorem tokenCovers_lifted (os : Os) (started : os.Started) (H : Type) (enc : TypeId × Value → H) (F : Stop.Interp) :
    ReturnsInHanded {} Tryd.checked os 4 .any ((OpenSpec.ofChange Rows.tokenCoversSpec).preRow enc Tryd.prog Tryd.f4 Rows.tokenCoversRow.domain false Rows.tokenCoversRow.laid) (((OpenSpec.ofChange Rows.tokenCoversSpec).at F).post enc Tryd.prog Tryd.f4 false true false false) := by
  obtain ⟨places, hx⟩ := tokenCovers_reads os enc
  refine returnsInHanded_of_row (C := Tryd.checked) (s := OpenSpec.ofChange Rows.tokenCoversSpec) own started (by kernel_rfl) Tryd.func4
    (witness_row_at (enc := enc) (C := Tryd.checked) false (layTab (World.holding Tryd.prog os ⟨#[], #[], []⟩)) #[.string ByteArray.empty] rfl (by kernel_rfl) (by kernel_rfl) (by kernel_rfl)
      (OpenSpec.preRow_of_cond 8 hx (by kernel_rfl) (fun k hk => by cases hk) (by kernel_rfl) (tokenCovers_met os))) ?_
  intro W base args ds gs before hval hW _ hcond hsz hL _ _
  exact tokenCovers_contract H enc W base args ds gs before hval hW (sg_of_laid hL) hsz

theorem tokenCovers_row : Rows.TokenCoversSaid :=
  OpenClaim.holds_of_cond 4 Tryd.f4 rfl rfl rfl rfl rfl rfl rfl ⟨rfl, rfl, rfl, rfl, rfl⟩ rfl rfl rfl rfl rfl (by kernel_rfl) Tryd.func4 (by kernel_rfl)
    (of_decide_eq_true (by kernel_rfl)) (by unfold Func.isWrapper; first | (rw [if_pos (by decide +kernel)]; kernel_rfl) | (rw [if_neg (by decide +kernel)]; exact ⟨rfl, rfl⟩))
    (fun os started H enc _ F => by rw [OpenClaim.pre_eq_preRow]; exact tokenCovers_lifted os started H enc F)
theorem tokenCovers_plain (f : FuncId) (fn : Func) (hf : Tryd.pinned.checked.prog.funcNamed "harrow/harrowlaw05.TokenCovers" = some f) (hfn : Tryd.pinned.checked.prog.funcs[f]? = some fn) :
    false = Tryd.pinned.checked.prog.looks [] ∧ ∀ (j : Nat) t, fn.params[j]? = some t → Tryd.pinned.checked.prog.wantsStandIn t = false := by
  obtain rfl : f = 4 := Option.some.inj ((show Tryd.prog.funcNamed "harrow/harrowlaw05.TokenCovers" = some 4 by kernel_rfl).symm.trans hf) |>.symm
  obtain rfl : fn = Tryd.f4 := (Option.some.inj (Tryd.func4.symm.trans hfn)).symm
  refine ⟨by kernel_rfl, fun j t ht => ?_⟩
  rw [Tryd.params4] at ht
  have hm : t ∈ [9] := by simpa using Array.mem_of_getElem? ht
  have hall : ([9].all fun u => !Tryd.prog.wantsStandIn u) = true := by kernel_rfl
  exact (show Tryd.prog.wantsStandIn t = false by simpa using List.all_eq_true.1 hall t hm)
theorem tokenCovers_holds : Rows.TokenCoversCardSaid :=
  Claim7.holds_tied_plain_at .later [] _ _ _ _ tokenCovers_row (fun _ h => by cases h) (by kernel_rfl) (fun _ h => by cases h) tokenCovers_row_tie rfl ⟨rfl, rfl⟩ (by kernel_rfl) rfl tokenCovers_plain (by kernel_rfl)
end Go.Proofs.YthffklhojdldkaaDoor
