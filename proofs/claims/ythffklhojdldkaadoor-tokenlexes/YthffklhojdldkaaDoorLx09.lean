/- DERIVED. Plain mathematics and walks, laid together (9). -/
import Derived.Deep.AppendLies
import Derived.Test.YthffklhojdldkaaDoorLx08
namespace Go.Proofs.YthffklhojdldkaaDoor
open Go.RowKit
theorem escT_bd {s : ByteArray} {i c n : Nat} (h : escT s i = some (c, n)) : c < 256 ∧ i < n ∧ n ≤ s.size := by
  unfold escT at h
  have hc := chr_le s (i + 1)
  have hx2 := hexV_bd (chr s (i + 2))
  have hx3 := hexV_bd (chr s (i + 3))
  have hl : 0 ≤ chr s (i + 1) → i + 1 < s.size := chr_lt
  split at h; (simp at h; omega)
  split at h; (simp at h; omega)
  split at h; (simp at h; omega)
  split at h; (simp at h; omega)
  split at h
  · rename_i q
    have := hexV_chr q.2.2
    simp at h
    omega
  · simp at h
theorem own_form {W : World} {B e s n : Nat} {v : Value} {xs : List Value} (h : W.ownsRow B e s v n xs) : ∃ A c, v = .slice A n c := by
  rcases h.2 with ⟨rfl, h0⟩ | ⟨g, cap, cur, rfl, _⟩
  · exact ⟨none, 0, by rw [h0]⟩
  · exact ⟨_, cap, rfl⟩
theorem TX.grown {W W' : World} {b : Nat} {t : Tk} {X : Option Nat} (h : TX W b t) (hg : W.grownBy W' X) (hx : X ≠ some b) : TX W' b t := h.same (hg.block b h.lt (fun e => hx e.symm))
/-- While a literal is read. -/
structure AtT (w wr : World) (s : ByteArray) (b : Nat) (v : Value) (out : List Int) (i f : Nat) : Prop where
  hb : Below w.heap.size w wr
  hx : TX wr w.heap.size tk0
  ho : wr.ownsRow (w.heap.size + 1) 5 1 v out.length (out.map (Value.int .u8))
  hi : i ≤ s.size
  hf : s.size < f + i
  he : litGo s (chr s b) b f out i = litR s b
  hl : out.length ≤ i

set_option maxRecDepth 100000 in
set_option maxHeartbeats 8000000 in
theorem literal_any (s : ByteArray) (b : Nat) (hs : s.size ≤ 140737488355000) (hb : b < s.size) (w : World) : Calls Tryd.prog 36 #[.string s, .int .i64 b] w fun e w' => e = .returned (tokV (litR s b)) ∧ Below w.heap.size w w' := by
  obtain ⟨i0, hinf, hz0, hz1, hz2⟩ := info_parts Tryd.info5
  have HWr : Hid (∀ i e w, Calls Tryd.prog 32 #[.int .i64 i, .int .i64 e] w fun e' w' => e' = .returned (.tuple #[tkG tk0, .int .i64 i, .int .i64 e]) ∧ Below w.heap.size w w') := fun i e w => wrong_any i e w
  have HA : Hid (∀ k w, Calls Tryd.prog 29 #[.string s, .int .i64 ((k : Nat) : Int)] w fun e w' => e = .returned (.int .i64 (chr s k)) ∧ w' = w) := fun k w => at_any s k w
  have HEs : Hid (∀ k w, k ≤ s.size → Calls Tryd.prog 56 #[.string s, .int .i64 ((k : Nat) : Int)] w fun e w' => e = .returned (esV k (escT s k)) ∧ w' = w) := fun k w hk => escape_any s k (by omega) hk w
  have H0 := (show Hid (AtT w (w.alloc (tkO tk0)) s b (.slice none 0 0) [] (b + 1) (s.size + 1)) from ⟨below_box _ _, TX.new _ _, World.ownsRow_nil _ _ _ _, by omega, by omega, rfl, Nat.zero_le _⟩)
  have zb0 : (0 : Int) ≤ (b : Int) := by omega
  have zb1 : (b : Int) < (s.size : Int) := by omega
  have hqb := chr_in hb
  have hwb : wrap64 (s[b].toNat : Int) = chr s b := by rw [hqb]; have := (s[b]).toNat_lt; unfold wrap64; omega
  clear hqb
  go_enter Tryd.func36, Tryd.ntmps36
  go_wp2_with fail
  go_loopw [7, 8] (fun v t wr => ∃ (out : List Int) (i f : Nat), t = .int .i64 i ∧ Hid (AtT w wr s b v out i f)) (fun _ t _ => s.size + 1 - (intOf t).toNat)
  case atStart => exact ⟨[], b + 1, s.size + 1, by go_num, H0⟩
  case round =>
    obtain ⟨out, i, f, rfl, HW⟩ := hrel
    clear H0
    have hi := HW.out.hi
    have hf := HW.out.hf
    have hol := HW.out.hl
    obtain ⟨f, rfl⟩ : ∃ g, f = g + 1 := ⟨f - 1, by omega⟩
    have HS : Hid (litGo s (chr s b) b (f + 1) out i = litR s b) := HW.out.he
    have HU : Hid (litGo s (chr s b) b (f + 1) out i = if chr s i < 0 then .inr (b, 52) else if chr s i = chr s b then (if 255 < out.length then .inr (b, 2) else .inl ⟨2, 0, b, i + 1, asText out, 0, 0, 0, 0⟩)
      else if chr s i < 32 ∨ chr s i = 127 then .inr (i, 50) else if chr s i ≠ 92 then litGo s (chr s b) b f (out ++ [chr s i]) (i + 1)
      else match escT s i with
        | none => .inr (i, 51)
        | some (c, n) => litGo s (chr s b) b f (out ++ [(c : Int)]) n) := rfl
    go_wp2_with fail
    refine (HA.out _ _).mono ?_
    rintro e wr ⟨rfl, rfl⟩
    have hcl := chr_le s i
    by_cases h1 : chr s i < 0
    · have HE : Hid (litR s b = .inr (b, 52)) := by show litR s b = _; rw [← HS.out, HU.out, if_pos h1]
      have t1 : decide (chr s i < 0) = true := decide_eq_true h1
      clear HS HU HA HEs
      go_wp2_with fail
      refine (HWr.out _ _ _).mono ?_
      rintro e w3 ⟨rfl, b3⟩
      have HX3 := (show Hid (TX w3 w.heap.size tk0) from HW.out.hx.below b3)
      have HB3 := (show Hid (Below w.heap.size w w3) from HW.out.hb.trans (b3.mono HW.out.hb.size))
      clear b3 HWr HW
      obtain ⟨c0, c1, c2, c3, c4, c5, c6, c7, c8⟩ := HX3.out.cells
      obtain ⟨f0, f1, f2, f3, f4, f5, f6, f7, f8⟩ := HX3.out.fz
      go_wp2_with fail
      exact ret_tok rfl rfl rfl rfl rfl (st9_tx HX3.out tk0) ⟨by rw [HE.out]; rfl, st9_below HB3.out (Nat.le_refl _) tk0⟩
    have t1 : decide (chr s i < 0) = false := decide_eq_false h1
    by_cases h2 : chr s i = chr s b
    · have t2 : (chr s i == chr s b) = true := by rw [h2]; simp
      obtain ⟨Av, cv, rfl⟩ := own_form HW.out.ho
      by_cases h3 : 255 < out.length
      · have t3 : decide (255 < out.length) = true := decide_eq_true h3
        have HE : Hid (litR s b = .inr (b, 2)) := by show litR s b = _; rw [← HS.out, HU.out, if_neg h1, if_pos h2, if_pos h3]
        clear HS HU HA HEs
        go_wp2_with fail
        refine (HWr.out _ _ _).mono ?_
        rintro e w3 ⟨rfl, b3⟩
        have HX3 := (show Hid (TX w3 w.heap.size tk0) from HW.out.hx.below b3)
        have HB3 := (show Hid (Below w.heap.size w w3) from HW.out.hb.trans (b3.mono HW.out.hb.size))
        clear b3 HWr HW
        obtain ⟨c0, c1, c2, c3, c4, c5, c6, c7, c8⟩ := HX3.out.cells
        obtain ⟨f0, f1, f2, f3, f4, f5, f6, f7, f8⟩ := HX3.out.fz
        go_wp2_with fail
        exact ret_tok rfl rfl rfl rfl rfl (st9_tx HX3.out tk0) ⟨by rw [HE.out]; rfl, st9_below HB3.out (Nat.le_refl _) tk0⟩
      · have t3 : decide (255 < out.length) = false := decide_eq_false h3
        have HE : Hid (litR s b = .inl ⟨2, 0, b, i + 1, asText out, 0, 0, 0, 0⟩) := by show litR s b = _; rw [← HS.out, HU.out, if_neg h1, if_pos h2, if_neg h3]
        have hcv := text_own HW.out.ho
        obtain ⟨c0, c1, c2, c3, c4, c5, c6, c7, c8⟩ := HW.out.hx.cells
        obtain ⟨f0, f1, f2, f3, f4, f5, f6, f7, f8⟩ := HW.out.hx.fz
        clear HS HU HA HEs HWr
        go_wp2_with fail
        exact ret_tok rfl rfl rfl rfl rfl (st9_tx HW.out.hx ⟨2, 0, b, i + 1, asText out, 0, 0, 0, 0⟩) ⟨by rw [HE.out]; rfl, st9_below HW.out.hb (Nat.le_refl _) ⟨2, 0, b, i + 1, asText out, 0, 0, 0, 0⟩⟩
    have t2 : (chr s i == chr s b) = false := beq_eq_false_iff_ne.2 h2
    by_cases h4 : chr s i < 32 ∨ chr s i = 127
    · have HE : Hid (litR s b = .inr (i, 50)) := by show litR s b = _; rw [← HS.out, HU.out, if_neg h1, if_neg h2, if_pos h4]
      by_cases h5 : chr s i < 32
      · have t3 : decide (chr s i < 32) = true := decide_eq_true h5
        clear HS HU HA HEs
        go_wp2_with fail
        refine (HWr.out _ _ _).mono ?_
        rintro e w3 ⟨rfl, b3⟩
        have HX3 := (show Hid (TX w3 w.heap.size tk0) from HW.out.hx.below b3)
        have HB3 := (show Hid (Below w.heap.size w w3) from HW.out.hb.trans (b3.mono HW.out.hb.size))
        clear b3 HWr HW
        obtain ⟨c0, c1, c2, c3, c4, c5, c6, c7, c8⟩ := HX3.out.cells
        obtain ⟨f0, f1, f2, f3, f4, f5, f6, f7, f8⟩ := HX3.out.fz
        go_wp2_with fail
        exact ret_tok rfl rfl rfl rfl rfl (st9_tx HX3.out tk0) ⟨by rw [HE.out]; rfl, st9_below HB3.out (Nat.le_refl _) tk0⟩
      · have t3 : decide (chr s i < 32) = false := decide_eq_false h5
        have t4 : (chr s i == 127) = true := beq_iff_eq.2 (h4.resolve_left h5)
        clear HS HU HA HEs
        go_wp2_with fail
        refine (HWr.out _ _ _).mono ?_
        rintro e w3 ⟨rfl, b3⟩
        have HX3 := (show Hid (TX w3 w.heap.size tk0) from HW.out.hx.below b3)
        have HB3 := (show Hid (Below w.heap.size w w3) from HW.out.hb.trans (b3.mono HW.out.hb.size))
        clear b3 HWr HW
        obtain ⟨c0, c1, c2, c3, c4, c5, c6, c7, c8⟩ := HX3.out.cells
        obtain ⟨f0, f1, f2, f3, f4, f5, f6, f7, f8⟩ := HX3.out.fz
        go_wp2_with fail
        exact ret_tok rfl rfl rfl rfl rfl (st9_tx HX3.out tk0) ⟨by rw [HE.out]; rfl, st9_below HB3.out (Nat.le_refl _) tk0⟩
    have t3 : decide (chr s i < 32) = false := decide_eq_false (by omega)
    have t4 : (chr s i == 127) = false := beq_eq_false_iff_ne.2 (by omega)
    have hil : i < s.size := chr_lt (by omega)
    by_cases h6 : chr s i = 92
    · have t5 : (chr s i != 92) = false := by rw [h6]; rfl
      have HV : Hid (litR s b = match escT s i with
        | none => .inr (i, 51)
        | some (c, n) => litGo s (chr s b) b f (out ++ [(c : Int)]) n) := by show litR s b = _; rw [← HS.out, HU.out, if_neg h1, if_neg h2, if_neg h4, if_neg (by simp [h6])]
      cases he : escT s i with
      | none =>
        have HE : Hid (litR s b = .inr (i, 51)) := by show litR s b = _; rw [HV.out, he]
        have HE2 := (show Hid (∀ w, Calls Tryd.prog 56 #[.string s, .int .i64 (i : Int)] w fun e w' => e = .returned (.tuple #[.int .i64 (-1), .int .i64 i]) ∧ w' = w) from fun w => by
          have h := HEs.out i w hi
          rw [he] at h
          exact h)
        clear he HV
        go_wp2_with fail
        refine (HE2.out _).mono ?_
        rintro e wr ⟨rfl, rfl⟩
        clear HE2
        clear HS HU HA HEs
        go_wp2_with fail
        refine (HWr.out _ _ _).mono ?_
        rintro e w3 ⟨rfl, b3⟩
        have HX3 := (show Hid (TX w3 w.heap.size tk0) from HW.out.hx.below b3)
        have HB3 := (show Hid (Below w.heap.size w w3) from HW.out.hb.trans (b3.mono HW.out.hb.size))
        clear b3 HWr HW
        obtain ⟨c0, c1, c2, c3, c4, c5, c6, c7, c8⟩ := HX3.out.cells
        obtain ⟨f0, f1, f2, f3, f4, f5, f6, f7, f8⟩ := HX3.out.fz
        go_wp2_with fail
        exact ret_tok rfl rfl rfl rfl rfl (st9_tx HX3.out tk0) ⟨by rw [HE.out]; rfl, st9_below HB3.out (Nat.le_refl _) tk0⟩
      | some p =>
        obtain ⟨cc, nn⟩ := p
        have hbd := escT_bd he
        have HE : Hid (litGo s (chr s b) b f (out ++ [(cc : Int)]) nn = litR s b) := by show _ = litR s b; rw [HV.out, he]
        have HE2 := (show Hid (∀ w, Calls Tryd.prog 56 #[.string s, .int .i64 (i : Int)] w fun e w' => e = .returned (.tuple #[.int .i64 cc, .int .i64 nn]) ∧ w' = w) from fun w => by
          have h := HEs.out i w hi
          rw [he] at h
          exact h)
        have hw8 : IntKind.u8.wrap (cc : Int) = (cc : Int) := by rw [IntKind.wrap_u8']; omega
        have t6 : decide ((cc : Int) < 0) = false := decide_eq_false (by omega)
        clear he HV
        go_wp2_with fail
        refine (HE2.out _).mono ?_
        rintro e wr ⟨rfl, rfl⟩
        clear HE2
        have hO : wr.ownsRow (w.heap.size + 1) 5 1 u7 out.length (out.map (Value.int .u8)) := HW.out.ho
        have HC := (show Hid (Below w.heap.size w wr ∧ TX wr w.heap.size tk0) from ⟨HW.out.hb, HW.out.hx⟩)
        have hsr : w.heap.size + 1 ≤ wr.heap.size := HW.out.hx.lt
        clear HW HS HU HEs HA HWr
        go_wp2_with (at_builtin; refine wpList_append_lies _ rfl _ _ 39 rfl (w.heap.size + 1) 5 i0 (.int .u8 0) 1 1 Tryd.underlying39 hinf hz0 hz1 hz2 rfl (by decide) _ _ _ rfl (hO.alloc _) ⟨wr.heap.size, 0, none⟩ 1 1 [.int .u8 ((cc : Int))] rfl rfl (cell_one_new _ _ _) (by simp [Value.oneCell']) (by decide) ?c3 ?c4 ?c5 (wr.heap.size + 1) (by simp) ?_)
        case c3 => unfold maxLen; omega
        case c4 => omega
        case c5 => first | omega | (simp; omega)
        intro g3 cap w3 hown hgrow hat _
        have HW3 := (show Hid (AtT w w3 s b (.slice (some ⟨g3, 0, none⟩) (out.length + 1) cap) (out ++ [(cc : Int)]) nn f) from by
          refine ⟨(HC.out.1.alloc HC.out.1.size _).grown hgrow (by have := HC.out.1.size; rw [World.size_alloc]; omega) (fun k e => by have := (hO.lt k e).1; omega), ((HC.out.2.below (below_box _ _)).grown hgrow (fun e => by have := (hO.lt _ e).1; omega)), ?_, by omega, by omega, HE.out, by rw [List.length_append, List.length_singleton]; omega⟩
          rw [List.length_append, List.length_singleton, List.map_append]
          exact hown)
        clear hown hgrow hat hO HC HE
        go_wp2_with fail
        go_roundw
        case rel => exact ⟨_, nn, f, by go_num, HW3⟩
        case measure => simp [intOf]; omega
    · have t5 : (chr s i != 92) = true := by rw [bne, beq_eq_false_iff_ne.2 h6]; rfl
      have HE : Hid (litGo s (chr s b) b f (out ++ [chr s i]) (i + 1) = litR s b) := by show _ = litR s b; rw [← HS.out, HU.out, if_neg h1, if_neg h2, if_neg h4, if_pos h6]
      have hw8 : IntKind.u8.wrap (chr s i) = chr s i := by rw [IntKind.wrap_u8']; omega
      have hO : wr.ownsRow (w.heap.size + 1) 5 1 u7 out.length (out.map (Value.int .u8)) := HW.out.ho
      have HC := (show Hid (Below w.heap.size w wr ∧ TX wr w.heap.size tk0) from ⟨HW.out.hb, HW.out.hx⟩)
      have hsr : w.heap.size + 1 ≤ wr.heap.size := HW.out.hx.lt
      clear HW HS HU HEs HA HWr
      go_wp2_with (at_builtin; refine wpList_append_lies _ rfl _ _ 39 rfl (w.heap.size + 1) 5 i0 (.int .u8 0) 1 1 Tryd.underlying39 hinf hz0 hz1 hz2 rfl (by decide) _ _ _ rfl (hO.alloc _) ⟨wr.heap.size, 0, none⟩ 1 1 [.int .u8 (chr s i)] rfl rfl (cell_one_new _ _ _) (by simp [Value.oneCell']) (by decide) ?c3 ?c4 ?c5 (wr.heap.size + 1) (by simp) ?_)
      case c3 => unfold maxLen; omega
      case c4 => omega
      case c5 => first | omega | (simp; omega)
      intro g3 cap w3 hown hgrow hat _
      have HW3 := (show Hid (AtT w w3 s b (.slice (some ⟨g3, 0, none⟩) (out.length + 1) cap) (out ++ [chr s i]) (i + 1) f) from by
        refine ⟨(HC.out.1.alloc HC.out.1.size _).grown hgrow (by have := HC.out.1.size; rw [World.size_alloc]; omega) (fun k e => by have := (hO.lt k e).1; omega), ((HC.out.2.below (below_box _ _)).grown hgrow (fun e => by have := (hO.lt _ e).1; omega)), ?_, by omega, by omega, HE.out, by rw [List.length_append, List.length_singleton]; omega⟩
        rw [List.length_append, List.length_singleton, List.map_append]
        exact hown)
      clear hown hgrow hat hO HC HE
      go_wp2_with fail
      go_roundw
      case rel => exact ⟨_, (i + 1), f, by go_num, HW3⟩
      case measure => simp [intOf]; omega
end Go.Proofs.YthffklhojdldkaaDoor

namespace Go.Proofs.YthffklhojdldkaaDoor
open Go.RowKit
set_option maxRecDepth 100000 in
set_option maxHeartbeats 8000000 in
theorem group_any (s : ByteArray) (b : Nat) (hs : s.size ≤ 140737488355000) (hb : b + 1 < s.size) (w : World) : Calls Tryd.prog 40 #[.string s, .int .i64 b] w fun e w' => e = .returned (tokV (grpR s b)) ∧ Below w.heap.size w w' := by
  have HWr : Hid (∀ i e w, Calls Tryd.prog 32 #[.int .i64 i, .int .i64 e] w fun e' w' => e' = .returned (.tuple #[tkG tk0, .int .i64 i, .int .i64 e]) ∧ Below w.heap.size w w') := fun i e w => wrong_any i e w
  have HA2 : Hid (∀ w, Calls Tryd.prog 29 #[.string s, .int .i64 ((b : Int) + 2)] w fun e w' => e = .returned (.int .i64 (chr s (b + 2))) ∧ w' = w) := fun w => at_any s (b + 2) w
  have HA : Hid (∀ k w, Calls Tryd.prog 29 #[.string s, .int .i64 ((k : Nat) : Int)] w fun e w' => e = .returned (.int .i64 (chr s k)) ∧ w' = w) := fun k w => at_any s k w
  have HH : Hid (∀ c w, Calls Tryd.prog 30 #[.int .i64 c] w fun e w' => e = .returned (.bool (hdB c)) ∧ w' = w) := fun c w => head_any c w
  have HR : Hid (∀ w, Calls Tryd.prog 31 #[.string s, .int .i64 ((b : Int) + 2)] w fun e w' => e = .returned (.int .i64 (spN nmB s (b + 2))) ∧ w' = w) := fun w => run_any s (b + 2) (by omega) (by omega) w
  have hge := spN_ge nmB s (by decide) (b + 2)
  have hle := spN_le nmB s (by decide) (b + 2) (by omega)
  cases hh : hdB (chr s (b + 2)) with
  | false =>
    have HE : Hid (grpR s b = .inl ⟨21, 0, b, b + 2, ⟨#[]⟩, 0, 0, 0, 0⟩) := by show grpR s b = _; unfold grpR; rw [if_neg (by rw [hh]; simp)]
    go_enter Tryd.func40, Tryd.ntmps40
    go_wp2_with fail
    refine (HA2.out _).mono ?_
    rintro e w2 ⟨rfl, rfl⟩
    go_wp2_with fail
    refine (HH.out _ _).mono ?_
    rintro e w2 ⟨rfl, rfl⟩
    rw [hh]
    clear HA HA2 HH HR hh
    go_wp2_with fail
    exact ret_tok (t := ⟨21, 0, b, b + 2, ⟨#[]⟩, 0, 0, 0, 0⟩) rfl rfl rfl rfl rfl ((TX.new w ⟨21, 0, b, b + 2, ⟨#[]⟩, 0, 0, 0, 0⟩).below (below_box _ _)) ⟨by rw [HE.out]; rfl, (below_box w _).alloc (below_box w _).size _⟩
  | true =>
    obtain ⟨n, hn⟩ : ∃ n, n = spN nmB s (b + 2) := ⟨_, rfl⟩
    have HU : Hid (grpR s b = if chr s n = 58 then (if 32 < n - b - 2 then .inr (b + 2, 2) else .inl ⟨21, 0, b, n + 1, s.extract (b + 2) n, 0, 0, 0, 0⟩) else .inl ⟨21, 0, b, b + 2, ⟨#[]⟩, 0, 0, 0, 0⟩) := by
      show grpR s b = _
      unfold grpR
      rw [← hn]
      by_cases q : chr s n = 58
      · rw [if_pos ⟨hh, q⟩, if_pos q]
      · rw [if_neg (fun z => q z.2), if_neg q]
    rw [← hn] at HR hge hle
    clear hn
    by_cases h58 : chr s n = 58
    · have t1 : (chr s n == 58) = true := by rw [h58]; rfl
      have u1 : IntKind.i64.wrap ((n : Int) - (b : Int)) = (n : Int) - (b : Int) := by rw [IntKind.wrap_i64]; omega
      have u2 : IntKind.i64.wrap ((n : Int) - (b : Int) - 2) = ((n - b - 2 : Nat) : Int) := by rw [IntKind.wrap_i64]; omega
      by_cases h32 : 32 < n - b - 2
      · have HE : Hid (grpR s b = .inr (b + 2, 2)) := by show grpR s b = _; rw [HU.out, if_pos h58, if_pos h32]
        have HX := (show Hid (TX ((w.alloc (tkO tk0)).alloc (tkO ⟨21, 0, b, b + 2, ⟨#[]⟩, 0, 0, 0, 0⟩)) w.heap.size tk0) from (TX.new w _).below (below_box _ _))
        have HB := (show Hid (Below w.heap.size w ((w.alloc (tkO tk0)).alloc (tkO ⟨21, 0, b, b + 2, ⟨#[]⟩, 0, 0, 0, 0⟩))) from (below_box w _).alloc (below_box w _).size _)
        obtain ⟨m, hm⟩ : ∃ m, m = n - b - 2 := ⟨_, rfl⟩
        rw [← hm] at u2 h32
        have t2 : decide (32 < m) = true := decide_eq_true h32
        clear hm HU h58
        go_enter Tryd.func40, Tryd.ntmps40
        go_wp2_with fail
        refine (HA2.out _).mono ?_
        rintro e w2 ⟨rfl, rfl⟩
        go_wp2_with fail
        refine (HH.out _ _).mono ?_
        rintro e w2 ⟨rfl, rfl⟩
        rw [hh]
        go_wp2_with fail
        refine (HR.out _).mono ?_
        rintro e w2 ⟨rfl, rfl⟩
        go_wp2_with fail
        refine (HA.out _ _).mono ?_
        rintro e w2 ⟨rfl, rfl⟩
        clear HA HA2 HH HR hh
        go_wp2_with fail
        refine (HWr.out _ _ _).mono ?_
        rintro e w3 ⟨rfl, b3⟩
        have HX3 := (show Hid (TX w3 w.heap.size tk0) from HX.out.below b3)
        have HB3 := (show Hid (Below w.heap.size w w3) from HB.out.trans (b3.mono HB.out.size))
        clear b3 HWr HX HB
        obtain ⟨c0, c1, c2, c3, c4, c5, c6, c7, c8⟩ := HX3.out.cells
        obtain ⟨f0, f1, f2, f3, f4, f5, f6, f7, f8⟩ := HX3.out.fz
        go_wp2_with fail
        exact ret_tok rfl rfl rfl rfl rfl (st9_tx HX3.out tk0) ⟨by rw [HE.out]; rfl, st9_below HB3.out (Nat.le_refl _) tk0⟩
      · have HE : Hid (grpR s b = .inl ⟨21, 0, b, n + 1, s.extract (b + 2) n, 0, 0, 0, 0⟩) := by show grpR s b = _; rw [HU.out, if_pos h58, if_neg h32]
        obtain ⟨m, hm⟩ : ∃ m, m = n - b - 2 := ⟨_, rfl⟩
        rw [← hm] at u2 h32
        have t2 : decide (32 < m) = false := decide_eq_false h32
        have z1 : (0 : Int) ≤ (b : Int) + 2 := by omega
        have z2 : (b : Int) + 2 ≤ (n : Int) := by omega
        have z3 : (n : Int) ≤ (s.size : Int) := by omega
        clear hm HU h58
        go_enter Tryd.func40, Tryd.ntmps40
        go_wp2_with fail
        refine (HA2.out _).mono ?_
        rintro e w2 ⟨rfl, rfl⟩
        go_wp2_with fail
        refine (HH.out _ _).mono ?_
        rintro e w2 ⟨rfl, rfl⟩
        rw [hh]
        go_wp2_with fail
        refine (HR.out _).mono ?_
        rintro e w2 ⟨rfl, rfl⟩
        go_wp2_with fail
        refine (HA.out _ _).mono ?_
        rintro e w2 ⟨rfl, rfl⟩
        clear HA HA2 HH HR hh HWr
        go_wp2_with fail
        exact ret_tok (t := ⟨21, 0, b, n + 1, s.extract (b + 2) n, 0, 0, 0, 0⟩) rfl rfl rfl rfl rfl ((TX.new w ⟨21, 0, b, n + 1, s.extract (b + 2) n, 0, 0, 0, 0⟩).below (below_box _ _)) ⟨by rw [HE.out]; rfl, (below_box w _).alloc (below_box w _).size _⟩
    · have t1 : (chr s n == 58) = false := beq_eq_false_iff_ne.2 h58
      have HE : Hid (grpR s b = .inl ⟨21, 0, b, b + 2, ⟨#[]⟩, 0, 0, 0, 0⟩) := by show grpR s b = _; rw [HU.out, if_neg h58]
      clear HU h58
      go_enter Tryd.func40, Tryd.ntmps40
      go_wp2_with fail
      refine (HA2.out _).mono ?_
      rintro e w2 ⟨rfl, rfl⟩
      go_wp2_with fail
      refine (HH.out _ _).mono ?_
      rintro e w2 ⟨rfl, rfl⟩
      rw [hh]
      go_wp2_with fail
      refine (HR.out _).mono ?_
      rintro e w2 ⟨rfl, rfl⟩
      go_wp2_with fail
      refine (HA.out _ _).mono ?_
      rintro e w2 ⟨rfl, rfl⟩
      clear HA HA2 HH HR hh HWr
      go_wp2_with fail
      exact ret_tok (t := ⟨21, 0, b, b + 2, ⟨#[]⟩, 0, 0, 0, 0⟩) rfl rfl rfl rfl rfl ((TX.new w ⟨21, 0, b, b + 2, ⟨#[]⟩, 0, 0, 0, 0⟩).below (below_box _ _)) ⟨by rw [HE.out]; rfl, (below_box w _).alloc (below_box w _).size _⟩
end Go.Proofs.YthffklhojdldkaaDoor

namespace Go.Proofs.YthffklhojdldkaaDoor
open Go.RowKit
/-- What a reading of members answers. -/
def mbV : Rd (BitVec 256 × Nat) → Value
  | .inl (x, n) => .tuple #[sv x, .int .i64 n, .agg #[.int .i64 0, .int .i64 0]]
  | .inr (a, c) => .tuple #[sv 0#256, .int .i64 0, .agg #[.int .i64 a, .int .i64 c]]

/-- Block b holds a fault, and may be written. -/
structure FHolds (w : World) (b : Nat) (p q : Int) : Prop where
  lt : b < w.heap.size
  c0 : w.cell? ⟨b, 0, none⟩ = some (.int .i64 p)
  c1 : w.cell? ⟨b, 1, none⟩ = some (.int .i64 q)
  f0 : w.frozen? ⟨b, 0, none⟩ = false
  f1 : w.frozen? ⟨b, 1, none⟩ = false
theorem FHolds.below {B : Nat} {w w' : World} {b : Nat} {p q : Int} (h : FHolds w b p q) (hb : Below B w w') (hB : b < B) : FHolds w' b p q :=
  ⟨Nat.lt_of_lt_of_le h.lt hb.size, (hb.cell (p := ⟨b, 0, none⟩) hB).trans h.c0, (hb.cell (p := ⟨b, 1, none⟩) hB).trans h.c1, (hb.frozen (p := ⟨b, 0, none⟩) hB).trans h.f0, (hb.frozen (p := ⟨b, 1, none⟩) hB).trans h.f1⟩
theorem FHolds.new (w : World) (p q : Int) : FHolds (w.alloc (.cells #[.int .i64 p, .int .i64 q] 26)) w.heap.size p q := by
  constructor <;> simp [go_sem]
abbrev fz : Obj := .cells #[.int .i64 0, .int .i64 0] 26
/-- The two boxes of the results: a set and a fault. -/
theorem boxes2 (w : World) : Holds ((w.alloc z4).alloc fz) w.heap.size 0#256 ∧ FHolds ((w.alloc z4).alloc fz) (w.heap.size + 1) 0 0 ∧ Below w.heap.size w ((w.alloc z4).alloc fz) := by
  refine ⟨(Holds.zero w).alloc _, ?_, ((Below.refl _ _).alloc (Nat.le_refl _) _).alloc (by simp) _⟩
  have h := FHolds.new (w.alloc z4) 0 0
  rw [show (w.alloc z4).heap.size = w.heap.size + 1 from by simp] at h
  exact h

theorem put6_below {B : Nat} {w w' : World} {b c : Nat} {x0 x1 x2 x3 y0 y1 : Value} (h : Below B w w') (hb : B ≤ b) (hc : B ≤ c) :
    Below B w ((((((w'.setCell ⟨b, 0, none⟩ x0).setCell ⟨b, 1, none⟩ x1).setCell ⟨b, 2, none⟩ x2).setCell ⟨b, 3, none⟩ x3).setCell ⟨c, 0, none⟩ y0).setCell ⟨c, 1, none⟩ y1) :=
  (((((h.setCell hb _).setCell hb _).setCell hb _).setCell hb _).setCell hc _).setCell hc _
theorem set_size (w : World) (p : Addr) (v : Value) : (w.setCell p v).heap.size = w.heap.size := by simp [World.setCell]
theorem put6_size {w' : World} {b c : Nat} {x0 x1 x2 x3 y0 y1 : Value} :
    ((((((w'.setCell ⟨b, 0, none⟩ x0).setCell ⟨b, 1, none⟩ x1).setCell ⟨b, 2, none⟩ x2).setCell ⟨b, 3, none⟩ x3).setCell ⟨c, 0, none⟩ y0).setCell ⟨c, 1, none⟩ y1).heap.size = w'.heap.size := by
  simp only [set_size]

set_option maxRecDepth 100000 in
set_option maxHeartbeats 1000000 in
theorem readClass_any (s : ByteArray) (i : Nat) (hi : i ≤ s.size) (hs : s.size ≤ 140737488355328) (w : World) :
    Calls Tryd.prog 94 #[.string s, .int .i64 i] w fun e w' => e = .returned (mbV (rdClass s i)) ∧ Below w.heap.size w w' := by
  obtain ⟨q1, q2, q3⟩ := boxes2 w
  have HH := (show Hid _ from q1)
  have HG := (show Hid _ from q2)
  have HR := (show Hid _ from q3)
  clear q1 q2 q3
  by_cases h : i + 1 < s.size
  · have hb : s[i + 1].toNat < 256 := s[i + 1].toNat_lt
    have HX : Hid (∀ w, Calls Tryd.prog 53 #[.int .u8 (s[i + 1].toNat : Int)] w fun e w' => e = .returned (.tuple #[sv (cls s[i + 1].toNat).1, .int .i64 (cls s[i + 1].toNat).2]) ∧ Below w.heap.size w w') := fun w => class_any _ hb w
    by_cases hc : (cls s[i + 1].toNat).2 = 0
    · have HF := (show Hid (rdClass s i = .inl ((cls s[i + 1].toNat).1, i + 2)) from (by show rdClass s i = _; unfold rdClass; rw [chr_in h]; rw [if_pos ⟨h, hc⟩]; rfl))
      go_enter Tryd.func94, Tryd.ntmps94
      go_wp2_with fail
      refine (HX.out _).mono ?_
      rintro e w1 ⟨rfl, hb1⟩
      rw [hc]
      have hl : w.heap.size + 1 < w1.heap.size := by have h := hb1.size; simp at h; omega
      have HR1 := (show Hid _ from HR.out.trans (hb1.mono (by simp; omega)))
      obtain ⟨_, g0, g1, k0, k1⟩ := HG.out.below hb1 (by simp)
      obtain ⟨_, c0, c1, c2, c3, f0, f1, f2, f3⟩ := HH.out.below hb1 (by simp; omega)
      clear hb1 HX hc HH HG HR
      generalize (cls s[i + 1].toNat).1 = r at *
      go_wp2
      rw [HF.out]
      refine bodyPost_ret (v := mbV (.inl (r, i + 2))) (by simp [results, Tryd.results94, go_sem, mbV, wd_zero, *]) rfl ⟨rfl, ?_⟩
      exact (put6_below HR1.out (Nat.le_refl _) (by omega)).alloc (by rw [put6_size]; omega) _
    · have HF := (show Hid (rdClass s i = .inr (i, 10)) from (by show rdClass s i = _; unfold rdClass; rw [chr_in h]; rw [if_neg (fun q => hc q.2)]))
      have hc' : ((cls s[i + 1].toNat).2 == 0) = false := beq_eq_false_iff_ne.2 hc
      clear hc
      go_enter Tryd.func94, Tryd.ntmps94
      go_wp2_with fail
      refine (HX.out _).mono ?_
      rintro e w1 ⟨rfl, hb1⟩
      have hl : w.heap.size + 1 < w1.heap.size := by have h := hb1.size; simp at h; omega
      have HR1 := (show Hid _ from HR.out.trans (hb1.mono (by simp; omega)))
      obtain ⟨_, g0, g1, k0, k1⟩ := HG.out.below hb1 (by simp)
      obtain ⟨_, c0, c1, c2, c3, f0, f1, f2, f3⟩ := HH.out.below hb1 (by simp; omega)
      clear hb1 HX HH HG HR
      generalize cls s[i + 1].toNat = r at *
      go_wp2
      rw [HF.out]
      refine bodyPost_ret (v := mbV (.inr (i, 10))) (by simp [results, Tryd.results94, go_sem, mbV, wd_zero, *]) rfl ⟨rfl, ?_⟩
      exact (put6_below HR1.out (Nat.le_refl _) (by omega)).alloc (by rw [put6_size]; omega) _
  · have HF := (show Hid (rdClass s i = .inr (i, 10)) from (by show rdClass s i = _; unfold rdClass; rw [if_neg (fun q => h q.1)]))
    have h1 : ¬ (i : Int) + 1 < (s.size : Int) := by omega
    go_enter Tryd.func94, Tryd.ntmps94
    go_wp2
    rw [HF.out]
    refine bodyPost_ret (v := mbV (.inr (i, 10))) (by simp [results, Tryd.results94, go_sem, mbV, wd_zero, *]) rfl ⟨rfl, ?_⟩
    exact ((Below.refl _ _).alloc (Nat.le_refl _) _).alloc (by simp) _
end Go.Proofs.YthffklhojdldkaaDoor

namespace Go.Proofs.YthffklhojdldkaaDoor
open Go.RowKit
set_option maxRecDepth 100000 in
set_option maxHeartbeats 1000000 in
theorem member_class (s : ByteArray) (i : Nat) (hi : i ≤ s.size) (hs : s.size ≤ 140737488355328) (w : World) (hc : (chr s i == 37) = true) :
    Calls Tryd.prog 82 #[.string s, .int .i64 i] w fun e w' => e = .returned (mbV (rdMember s i)) ∧ Below w.heap.size w w' := by
  have HF := (show Hid (rdMember s i = rdClass s i) from (by show rdMember s i = _; unfold rdMember; rw [if_pos (beq_iff_eq.1 hc)]))
  obtain ⟨q1, q2, q3⟩ := boxes2 w
  have HH := (show Hid _ from q1)
  have HG := (show Hid _ from q2)
  have HR := (show Hid _ from q3)
  clear q1 q2 q3
  go_enter Tryd.func82, Tryd.ntmps82
  go_wp2_with fail
  refine (standsAt_any s i 37 (by omega) _).mono ?_
  rintro e w1 ⟨rfl, rfl⟩
  rw [hc]
  clear hc
  go_wp2_with fail
  refine (readClass_any s i hi hs _).mono ?_
  rintro e w1 ⟨rfl, hb1⟩
  have hl : w.heap.size + 1 < w1.heap.size := by have h := hb1.size; simp at h; omega
  have HR1 := (show Hid _ from HR.out.trans (hb1.mono (by simp; omega)))
  obtain ⟨_, g0, g1, k0, k1⟩ := HG.out.below hb1 (by simp)
  obtain ⟨_, c0, c1, c2, c3, f0, f1, f2, f3⟩ := HH.out.below hb1 (by simp; omega)
  clear hb1 HH HG HR
  cases hq : rdClass s i with
  | inl p =>
    obtain ⟨y, n⟩ := p
    rw [hq] at HF
    dsimp only [mbV]
    clear hq
    go_wp2
    rw [HF.out]
    refine bodyPost_ret (v := mbV (.inl (y, n))) (by simp [results, Tryd.results82, go_sem, mbV, wd_zero, *]) rfl ⟨rfl, ?_⟩
    exact put6_below HR1.out (Nat.le_refl _) (by omega)
  | inr pq =>
    obtain ⟨a, c⟩ := pq
    rw [hq] at HF
    dsimp only [mbV]
    clear hq
    go_wp2
    rw [HF.out]
    refine bodyPost_ret (v := mbV (.inr (a, c))) (by simp [results, Tryd.results82, go_sem, mbV, wd_zero, *]) rfl ⟨rfl, ?_⟩
    exact put6_below HR1.out (Nat.le_refl _) (by omega)

set_option maxRecDepth 100000 in
set_option maxHeartbeats 1000000 in
theorem member_none (s : ByteArray) (i : Nat) (_hi : i ≤ s.size) (hs : s.size ≤ 140737488355328) (w : World) (hc : (chr s i == 37) = false) (h1 : rdItem s i = none) :
    Calls Tryd.prog 82 #[.string s, .int .i64 i] w fun e w' => e = .returned (mbV (rdMember s i)) ∧ Below w.heap.size w w' := by
  have hn37 : ¬ chr s i = 37 := beq_eq_false_iff_ne.1 hc
  have HF := (show Hid (rdMember s i = .inr (i, 6)) from (by show rdMember s i = _; unfold rdMember; rw [if_neg hn37, h1]))
  clear hn37
  obtain ⟨q1, q2, q3⟩ := boxes2 w
  have HH := (show Hid _ from q1)
  have HG := (show Hid _ from q2)
  have HR := (show Hid _ from q3)
  clear q1 q2 q3
  go_enter Tryd.func82, Tryd.ntmps82
  go_wp2_with fail
  refine (standsAt_any s i 37 (by omega) _).mono ?_
  rintro e w1 ⟨rfl, rfl⟩
  rw [hc]
  clear hc
  go_wp2_with fail
  refine (readItem_any s i hs _).mono ?_
  rintro e w1 ⟨rfl, rfl⟩
  rw [h1]
  dsimp only [itV]
  clear h1
  go_wp2
  rw [HF.out]
  refine bodyPost_ret (v := mbV (.inr (i, 6))) (by simp [results, Tryd.results82, go_sem, mbV, wd_zero, *]) rfl ⟨rfl, ?_⟩
  exact ((Below.refl _ _).alloc (Nat.le_refl _) _).alloc (by simp) _

set_option maxRecDepth 100000 in
set_option maxHeartbeats 1000000 in
theorem member_one (s : ByteArray) (i : Nat) (_hi : i ≤ s.size) (hs : s.size ≤ 140737488355328) (w : World) (hc : (chr s i == 37) = false) (lo n : Nat) (h1 : rdItem s i = some (lo, n)) (h2 : (chr s n == 45) = false) :
    Calls Tryd.prog 82 #[.string s, .int .i64 i] w fun e w' => e = .returned (mbV (rdMember s i)) ∧ Below w.heap.size w w' := by
  have hn37 : ¬ chr s i = 37 := beq_eq_false_iff_ne.1 hc
  have HF := (show Hid (rdMember s i = .inl (spn lo lo, n)) from (by show rdMember s i = _; unfold rdMember; rw [if_neg hn37, h1]; exact if_neg (beq_eq_false_iff_ne.1 h2)))
  obtain ⟨b1, b2, b3⟩ := rdItem_bd h1
  clear hn37
  obtain ⟨q1, q2, q3⟩ := boxes2 w
  have HH := (show Hid _ from q1)
  have HG := (show Hid _ from q2)
  have HR := (show Hid _ from q3)
  clear q1 q2 q3
  go_enter Tryd.func82, Tryd.ntmps82
  go_wp2_with fail
  refine (standsAt_any s i 37 (by omega) _).mono ?_
  rintro e w1 ⟨rfl, rfl⟩
  rw [hc]
  clear hc
  go_wp2_with fail
  refine (readItem_any s i hs _).mono ?_
  rintro e w1 ⟨rfl, rfl⟩
  rw [h1]
  dsimp only [itV]
  clear h1
  go_wp2_with fail
  refine (standsAt_any s n 45 (by omega) _).mono ?_
  rintro e w1 ⟨rfl, rfl⟩
  rw [h2]
  clear h2
  go_wp2_with fail
  refine (bytesFrom_any lo lo _ (by omega) (by omega) (by omega)).mono ?_
  rintro e w1 ⟨rfl, hb1⟩
  have hl : w.heap.size + 1 < w1.heap.size := by have h := hb1.size; simp at h; omega
  have HR1 := (show Hid _ from HR.out.trans (hb1.mono (by simp; omega)))
  obtain ⟨_, g0, g1, k0, k1⟩ := HG.out.below hb1 (by simp)
  obtain ⟨_, c0, c1, c2, c3, f0, f1, f2, f3⟩ := HH.out.below hb1 (by simp; omega)
  clear hb1 HH HG HR
  generalize spn lo lo = y at *
  go_wp2
  rw [HF.out]
  refine bodyPost_ret (v := mbV (.inl (y, n))) (by simp [results, Tryd.results82, go_sem, mbV, wd_zero, *]) rfl ⟨rfl, ?_⟩
  exact put6_below HR1.out (Nat.le_refl _) (by omega)

set_option maxRecDepth 100000 in
set_option maxHeartbeats 1000000 in
theorem member_hole (s : ByteArray) (i : Nat) (_hi : i ≤ s.size) (hs : s.size ≤ 140737488355328) (w : World) (hc : (chr s i == 37) = false) (lo n : Nat) (h1 : rdItem s i = some (lo, n)) (h2 : (chr s n == 45) = true) (h3 : rdItem s (n + 1) = none) :
    Calls Tryd.prog 82 #[.string s, .int .i64 i] w fun e w' => e = .returned (mbV (rdMember s i)) ∧ Below w.heap.size w w' := by
  have hn37 : ¬ chr s i = 37 := beq_eq_false_iff_ne.1 hc
  have HF := (show Hid (rdMember s i = .inr ((n + 1), 6)) from (by show rdMember s i = _; unfold rdMember; rw [if_neg hn37, h1]; exact (if_pos (beq_iff_eq.1 h2)).trans (by rw [h3])))
  obtain ⟨b1, b2, b3⟩ := rdItem_bd h1
  clear hn37
  obtain ⟨q1, q2, q3⟩ := boxes2 w
  have HH := (show Hid _ from q1)
  have HG := (show Hid _ from q2)
  have HR := (show Hid _ from q3)
  clear q1 q2 q3
  go_enter Tryd.func82, Tryd.ntmps82
  go_wp2_with fail
  refine (standsAt_any s i 37 (by omega) _).mono ?_
  rintro e w1 ⟨rfl, rfl⟩
  rw [hc]
  clear hc
  go_wp2_with fail
  refine (readItem_any s i hs _).mono ?_
  rintro e w1 ⟨rfl, rfl⟩
  rw [h1]
  dsimp only [itV]
  clear h1
  go_wp2_with fail
  refine (standsAt_any s n 45 (by omega) _).mono ?_
  rintro e w1 ⟨rfl, rfl⟩
  rw [h2]
  clear h2
  go_wp2_with fail
  rw [show (n : Int) + 1 = ((n + 1 : Nat) : Int) from by omega]
  refine (readItem_any s (n + 1) hs _).mono ?_
  rintro e w1 ⟨rfl, rfl⟩
  rw [h3]
  dsimp only [itV]
  clear h3
  go_wp2
  rw [HF.out]
  refine bodyPost_ret (v := mbV (.inr ((n + 1), 6))) (by simp [results, Tryd.results82, go_sem, mbV, wd_zero, *]) rfl ⟨rfl, ?_⟩
  exact ((Below.refl _ _).alloc (Nat.le_refl _) _).alloc (by simp) _

set_option maxRecDepth 100000 in
set_option maxHeartbeats 1000000 in
theorem member_turned (s : ByteArray) (i : Nat) (_hi : i ≤ s.size) (hs : s.size ≤ 140737488355328) (w : World) (hc : (chr s i == 37) = false) (lo n hi_ e_ : Nat) (h1 : rdItem s i = some (lo, n)) (h2 : (chr s n == 45) = true) (h3 : rdItem s (n + 1) = some (hi_, e_)) (h4 : hi_ < lo) :
    Calls Tryd.prog 82 #[.string s, .int .i64 i] w fun e w' => e = .returned (mbV (rdMember s i)) ∧ Below w.heap.size w w' := by
  have hn37 : ¬ chr s i = 37 := beq_eq_false_iff_ne.1 hc
  have HF := (show Hid (rdMember s i = .inr (i, 1)) from (by show rdMember s i = _; unfold rdMember; rw [if_neg hn37, h1]; exact (if_pos (beq_iff_eq.1 h2)).trans (by rw [h3]; exact if_pos h4)))
  obtain ⟨b1, b2, b3⟩ := rdItem_bd h1
  have h5 : (hi_ : Int) < (lo : Int) := by omega
  clear hn37
  obtain ⟨q1, q2, q3⟩ := boxes2 w
  have HH := (show Hid _ from q1)
  have HG := (show Hid _ from q2)
  have HR := (show Hid _ from q3)
  clear q1 q2 q3
  go_enter Tryd.func82, Tryd.ntmps82
  go_wp2_with fail
  refine (standsAt_any s i 37 (by omega) _).mono ?_
  rintro e w1 ⟨rfl, rfl⟩
  rw [hc]
  clear hc
  go_wp2_with fail
  refine (readItem_any s i hs _).mono ?_
  rintro e w1 ⟨rfl, rfl⟩
  rw [h1]
  dsimp only [itV]
  clear h1
  go_wp2_with fail
  refine (standsAt_any s n 45 (by omega) _).mono ?_
  rintro e w1 ⟨rfl, rfl⟩
  rw [h2]
  clear h2
  go_wp2_with fail
  rw [show (n : Int) + 1 = ((n + 1 : Nat) : Int) from by omega]
  refine (readItem_any s (n + 1) hs _).mono ?_
  rintro e w1 ⟨rfl, rfl⟩
  rw [h3]
  dsimp only [itV]
  clear h3
  go_wp2
  rw [HF.out]
  refine bodyPost_ret (v := mbV (.inr (i, 1))) (by simp [results, Tryd.results82, go_sem, mbV, wd_zero, *]) rfl ⟨rfl, ?_⟩
  exact ((Below.refl _ _).alloc (Nat.le_refl _) _).alloc (by simp) _

set_option maxRecDepth 100000 in
set_option maxHeartbeats 1000000 in
theorem member_span (s : ByteArray) (i : Nat) (_hi : i ≤ s.size) (hs : s.size ≤ 140737488355328) (w : World) (hc : (chr s i == 37) = false) (lo n hi_ e_ : Nat) (h1 : rdItem s i = some (lo, n)) (h2 : (chr s n == 45) = true) (h3 : rdItem s (n + 1) = some (hi_, e_)) (h4 : ¬ hi_ < lo) :
    Calls Tryd.prog 82 #[.string s, .int .i64 i] w fun e w' => e = .returned (mbV (rdMember s i)) ∧ Below w.heap.size w w' := by
  have hn37 : ¬ chr s i = 37 := beq_eq_false_iff_ne.1 hc
  have HF := (show Hid (rdMember s i = .inl (spn lo hi_, e_)) from (by show rdMember s i = _; unfold rdMember; rw [if_neg hn37, h1]; exact (if_pos (beq_iff_eq.1 h2)).trans (by rw [h3]; exact if_neg h4)))
  obtain ⟨b1, b2, b3⟩ := rdItem_bd h1
  obtain ⟨d1, d2, d3⟩ := rdItem_bd h3
  have h5 : ¬ (hi_ : Int) < (lo : Int) := by omega
  clear hn37
  obtain ⟨q1, q2, q3⟩ := boxes2 w
  have HH := (show Hid _ from q1)
  have HG := (show Hid _ from q2)
  have HR := (show Hid _ from q3)
  clear q1 q2 q3
  go_enter Tryd.func82, Tryd.ntmps82
  go_wp2_with fail
  refine (standsAt_any s i 37 (by omega) _).mono ?_
  rintro e w1 ⟨rfl, rfl⟩
  rw [hc]
  clear hc
  go_wp2_with fail
  refine (readItem_any s i hs _).mono ?_
  rintro e w1 ⟨rfl, rfl⟩
  rw [h1]
  dsimp only [itV]
  clear h1
  go_wp2_with fail
  refine (standsAt_any s n 45 (by omega) _).mono ?_
  rintro e w1 ⟨rfl, rfl⟩
  rw [h2]
  clear h2
  go_wp2_with fail
  rw [show (n : Int) + 1 = ((n + 1 : Nat) : Int) from by omega]
  refine (readItem_any s (n + 1) hs _).mono ?_
  rintro e w1 ⟨rfl, rfl⟩
  rw [h3]
  dsimp only [itV]
  clear h3
  go_wp2_with fail
  refine (bytesFrom_any lo hi_ _ (by omega) (by omega) (by omega)).mono ?_
  rintro e w1 ⟨rfl, hb1⟩
  have hl : w.heap.size + 1 < w1.heap.size := by have h := hb1.size; simp at h; omega
  have HR1 := (show Hid _ from HR.out.trans (hb1.mono (by simp; omega)))
  obtain ⟨_, g0, g1, k0, k1⟩ := HG.out.below hb1 (by simp)
  obtain ⟨_, c0, c1, c2, c3, f0, f1, f2, f3⟩ := HH.out.below hb1 (by simp; omega)
  clear hb1 HH HG HR
  generalize spn lo hi_ = y at *
  go_wp2
  rw [HF.out]
  refine bodyPost_ret (v := mbV (.inl (y, e_))) (by simp [results, Tryd.results82, go_sem, mbV, wd_zero, *]) rfl ⟨rfl, ?_⟩
  exact put6_below HR1.out (Nat.le_refl _) (by omega)

theorem readMember_any (s : ByteArray) (i : Nat) (hi : i ≤ s.size) (hs : s.size ≤ 140737488355328) (w : World) :
    Calls Tryd.prog 82 #[.string s, .int .i64 i] w fun e w' => e = .returned (mbV (rdMember s i)) ∧ Below w.heap.size w w' := by
  cases hc : (chr s i == 37)
  · cases h1 : rdItem s i with
    | none => exact member_none s i hi hs w hc h1
    | some p =>
      obtain ⟨lo, n⟩ := p
      cases h2 : (chr s n == 45)
      · exact member_one s i hi hs w hc lo n h1 h2
      · cases h3 : rdItem s (n + 1) with
        | none => exact member_hole s i hi hs w hc lo n h1 h2 h3
        | some p =>
          obtain ⟨hi_, e_⟩ := p
          by_cases h4 : hi_ < lo
          · exact member_turned s i hi hs w hc lo n hi_ e_ h1 h2 h3 h4
          · exact member_span s i hi hs w hc lo n hi_ e_ h1 h2 h3 h4
  · exact member_class s i hi hs w hc
end Go.Proofs.YthffklhojdldkaaDoor

namespace Go.Proofs.YthffklhojdldkaaDoor
open Go.RowKit
theorem rdMembers_end {s : ByteArray} {f : Nat} {x : BitVec 256} {k : Nat} (h : chr s k = 93) : rdMembers s (f + 1) x k = .inl (x, k) := by
  unfold rdMembers; rw [if_pos h]
theorem rdMembers_err {s : ByteArray} {f : Nat} {x : BitVec 256} {k a : Nat} {c : Int} (h : ¬ chr s k = 93) (h1 : rdMember s k = .inr (a, c)) : rdMembers s (f + 1) x k = .inr (a, c) := by
  rw [rdMembers, if_neg h, h1]
theorem rdMembers_step {s : ByteArray} {f : Nat} {x y : BitVec 256} {k n : Nat} (h : ¬ chr s k = 93) (h1 : rdMember s k = .inl (y, n)) : rdMembers s (f + 1) x k = rdMembers s f (x ||| y) n := by
  rw [rdMembers, if_neg h, h1]

theorem rdMember_code {s : ByteArray} {i a : Nat} {c : Int} (h : rdMember s i = .inr (a, c)) : (c != 0) = true ∧ a ≤ s.size + i + 1 := by
  unfold rdMember at h
  split at h
  · unfold rdClass at h
    split at h
    · simp at h
    · simp only [Sum.inr.injEq, Prod.mk.injEq] at h; obtain ⟨rfl, rfl⟩ := h; exact ⟨rfl, by omega⟩
  · split at h
    · simp only [Sum.inr.injEq, Prod.mk.injEq] at h; obtain ⟨rfl, rfl⟩ := h; exact ⟨rfl, by omega⟩
    · rename_i lo m hm
      have b1 := rdItem_bd hm
      split at h
      · split at h
        · simp only [Sum.inr.injEq, Prod.mk.injEq] at h; obtain ⟨rfl, rfl⟩ := h; exact ⟨rfl, by omega⟩
        · split at h
          · simp only [Sum.inr.injEq, Prod.mk.injEq] at h; obtain ⟨rfl, rfl⟩ := h; exact ⟨rfl, by omega⟩
          · simp at h
      · simp at h
theorem rdMembers_code {s : ByteArray} : ∀ {f : Nat} {x : BitVec 256} {i a : Nat} {c : Int}, rdMembers s f x i = .inr (a, c) → (c != 0) = true := by
  intro f
  induction f with
  | zero => intro x i a c h; simp only [rdMembers, Sum.inr.injEq, Prod.mk.injEq] at h; obtain ⟨rfl, rfl⟩ := h; rfl
  | succ f ih =>
    intro x i a c h
    by_cases hc : chr s i = 93
    · rw [rdMembers_end hc] at h; simp at h
    · cases hm : rdMember s i with
      | inr pq =>
        obtain ⟨a', c'⟩ := pq
        rw [rdMembers_err hc hm] at h; simp only [Sum.inr.injEq, Prod.mk.injEq] at h; obtain ⟨rfl, rfl⟩ := h; exact (rdMember_code hm).1
      | inl p => obtain ⟨y, n⟩ := p; rw [rdMembers_step hc hm] at h; exact ih h
theorem rdMembers_ok {s : ByteArray} : ∀ {f : Nat} {x y : BitVec 256} {i n : Nat}, rdMembers s f x i = .inl (y, n) → i ≤ n ∧ n < s.size ∧ chr s n = 93 := by
  intro f
  induction f with
  | zero => intro x y i n h; simp [rdMembers] at h
  | succ f ih =>
    intro x y i n h
    by_cases hc : chr s i = 93
    · rw [rdMembers_end hc] at h; simp only [Sum.inl.injEq, Prod.mk.injEq] at h; obtain ⟨rfl, rfl⟩ := h; exact ⟨by omega, chr_lt (by omega), hc⟩
    · cases hm : rdMember s i with
      | inr pq =>
        obtain ⟨a', c'⟩ := pq
        rw [rdMembers_err hc hm] at h; simp at h
      | inl p => obtain ⟨y, n⟩ := p; have b := rdMember_bd hm; rw [rdMembers_step hc hm] at h; have b2 := ih h; exact ⟨by omega, b2.2⟩

/-- The three boxes: a set, a fault, the set that is gathered. -/
theorem boxes3 (w : World) : Holds (((w.alloc z4).alloc fz).alloc z4) w.heap.size 0#256 ∧ FHolds (((w.alloc z4).alloc fz).alloc z4) (w.heap.size + 1) 0 0 ∧ Holds (((w.alloc z4).alloc fz).alloc z4) (w.heap.size + 1 + 1) 0#256 ∧ Below w.heap.size w (((w.alloc z4).alloc fz).alloc z4) := by
  obtain ⟨h1, h2, h3⟩ := boxes2 w
  have hs : ((w.alloc z4).alloc fz).heap.size = w.heap.size + 1 + 1 := by simp
  refine ⟨h1.alloc _, h2.below (B := w.heap.size + 1 + 1) ((Below.refl _ _).alloc (by rw [hs]; exact Nat.le_refl _) _) (by omega), ?_, h3.alloc (by rw [hs]; omega) _⟩
  have h := Holds.zero ((w.alloc z4).alloc fz)
  rw [hs] at h
  exact h
/-- What holds of the boxes while members are read. -/
structure AtM (w wr : World) (x : BitVec 256) : Prop where
  h1 : Holds wr w.heap.size 0#256
  h2 : FHolds wr (w.heap.size + 1) 0 0
  h3 : Holds wr (w.heap.size + 1 + 1) x
  hb : Below w.heap.size w wr
theorem AtM.below {B : Nat} {w wr w1 : World} {x : BitVec 256} (h : AtM w wr x) (hb : Below B wr w1) (hB : w.heap.size + 1 + 1 < B) : AtM w w1 x :=
  ⟨h.h1.below hb (by omega), h.h2.below hb (by omega), h.h3.below hb hB, h.hb.trans (hb.mono (by omega))⟩

theorem FHolds.put_other {w : World} {b c : Nat} {p q : Int} (h : FHolds w c p q) (hne : c ≠ b) (y : BitVec 256) : FHolds (put4 w b y) c p q := by
  obtain ⟨lt, c0, c1, f0, f1⟩ := h
  constructor <;> simp [go_sem, *]
theorem AtM.put {w wr : World} {x : BitVec 256} (h : AtM w wr x) (y : BitVec 256) : AtM w (put4 wr (w.heap.size + 1 + 1) y) y :=
  ⟨h.h1.put_other (by omega) y, h.h2.put_other (by omega) y, h.h3.put y, put4_below h.hb (by omega) y⟩

set_option maxRecDepth 100000 in
set_option maxHeartbeats 2000000 in
theorem readMembers_any (s : ByteArray) (i : Nat) (hi : i ≤ s.size) (hs : s.size ≤ 140737488355328) (w : World) :
    Calls Tryd.prog 69 #[.string s, .int .i64 i] w fun e w' => e = .returned (mbV (rdMembers s (s.size + 1) 0#256 i)) ∧ Below w.heap.size w w' := by
  obtain ⟨q1, q2, q3, q4⟩ := boxes3 w
  have HA := (show Hid (AtM w (((w.alloc z4).alloc fz).alloc z4) 0#256) from ⟨q1, q2, q3, q4⟩)
  clear q1 q2 q3 q4
  generalize hR : rdMembers s (s.size + 1) 0#256 i = R
  have HR := (show Hid _ from hR)
  clear hR
  go_enter Tryd.func69, Tryd.ntmps69
  go_wp2_with fail
  go_loopw [1] (fun t wr => ∃ k : Nat, ∃ f : Nat, ∃ x : BitVec 256, k ≤ s.size ∧ t = .int .i64 k ∧ Hid (s.size + 1 ≤ f + k) ∧ Hid (rdMembers s f x k = R) ∧ Hid (AtM w wr x)) (fun t _ => s.size - (intOf t).toNat)
  case atStart => exact ⟨i, s.size + 1, 0#256, hi, rfl, show _ ≤ _ by omega, HR, HA⟩
  case round =>
    obtain ⟨k, f, x, hk, rfl, hf, hr, ha⟩ := hrel
    obtain ⟨g, rfl⟩ : ∃ g, f = g + 1 := ⟨f - 1, by have h := hf.out; omega⟩
    clear HA HR
    go_wp2_with fail
    refine (standsAt_any s k 93 (by omega) _).mono ?_
    rintro e w1 ⟨rfl, rfl⟩
    cases hc : (chr s k == 93)
    · have hn : ¬ chr s k = 93 := beq_eq_false_iff_ne.1 hc
      cases hm : rdMember s k with
      | inl p =>
        obtain ⟨y, n⟩ := p
        obtain ⟨b1, b2⟩ := rdMember_bd hm
        have hr' := (show Hid (rdMembers s g (x ||| y) n = R) from ((rdMembers_step hn hm).symm.trans hr.out))
        have hf' := (show Hid (s.size + 1 ≤ g + n) from (by have h := hf.out; show _ ≤ _; omega))
        have HM := (show Hid _ from hm)
        clear hn hm hc hr hf
        go_wp2_with fail
        refine (readMember_any s k hk hs _).mono ?_
        rintro e w1 ⟨rfl, hb1⟩
        rw [HM.out]
        dsimp only [mbV]
        have HA1 := (show Hid _ from ha.out.below hb1 ha.out.h3.lt)
        clear hb1 ha HM
        have hl : w.heap.size + 1 + 1 < w1.heap.size := HA1.out.h3.lt
        have HA2 := (show Hid (AtM w ((w1.alloc (c4 y)).alloc fz) x) from HA1.out.below (B := w1.heap.size) (((Below.refl _ _).alloc (Nat.le_refl _) _).alloc (by simp) _) hl)
        clear HA1
        obtain ⟨_, c0, c1, c2, c3, f0, f1, f2, f3⟩ := HA2.out.h3
        go_wp2_with fail
        refine (union_any x y _).mono ?_
        rintro e w2 ⟨rfl, hb2⟩
        have HA3 := (show Hid _ from HA2.out.below hb2 HA2.out.h3.lt)
        clear HA2 hb2 c0 c1 c2 c3 f0 f1 f2 f3
        obtain ⟨_, c0, c1, c2, c3, f0, f1, f2, f3⟩ := HA3.out.h3
        go_wp2_with fail
        go_roundw
        case rel =>
          exact ⟨n, g, x ||| y, b2, rfl, hf', hr', HA3.out.put (x ||| y)⟩
        case measure => simp [intOf]; omega
      | inr pq =>
        obtain ⟨a, c⟩ := pq
        have hr' := (show Hid (R = .inr (a, c)) from (hr.out.symm.trans (rdMembers_err hn hm)))
        have HM := (show Hid _ from hm)
        have hcn := (rdMember_code hm).1
        clear hn hm hc hr hf
        go_wp2_with fail
        refine (readMember_any s k hk hs _).mono ?_
        rintro e w1 ⟨rfl, hb1⟩
        rw [HM.out]
        dsimp only [mbV]
        have HA1 := (show Hid _ from ha.out.below hb1 ha.out.h3.lt)
        clear hb1 ha HM
        have hl : w.heap.size + 1 + 1 < w1.heap.size := HA1.out.h3.lt
        have HA2 := (show Hid (AtM w ((w1.alloc (c4 0#256)).alloc (.cells #[.int .i64 (a : Int), .int .i64 c] 26)) x) from HA1.out.below (B := w1.heap.size) (((Below.refl _ _).alloc (Nat.le_refl _) _).alloc (by simp) _) hl)
        clear HA1
        obtain ⟨_, c0, c1, c2, c3, f0, f1, f2, f3⟩ := HA2.out.h1
        obtain ⟨_, d0, d1, g0, g1⟩ := HA2.out.h2
        go_wp2_with fail
        go_region
        all_goals
          go_wp2
          rw [hr'.out]
          have HB2 := HA2.out.hb
          simp only [c4, wd_zero] at c0 c1 c2 c3 f0 f1 f2 f3 d0 d1 g0 g1 HB2 ⊢
          refine bodyPost_ret (v := mbV (.inr (a, c))) (by simp [results, Tryd.results69, go_sem, mbV, wd_zero, *]) rfl ⟨rfl, ?_⟩
          first | exact (put6_below HB2 (Nat.le_refl _) (by omega)).drew | exact put6_below HB2 (Nat.le_refl _) (by omega)
    · have he : chr s k = 93 := beq_iff_eq.1 hc
      have hr' := (show Hid (R = .inl (x, k)) from (hr.out.symm.trans (rdMembers_end he)))
      clear he hr hf hc
      have hl : w.heap.size + 1 + 1 < w1.heap.size := ha.out.h3.lt
      obtain ⟨_, c0, c1, c2, c3, f0, f1, f2, f3⟩ := ha.out.h1
      obtain ⟨_, d0, d1, g0, g1⟩ := ha.out.h2
      obtain ⟨_, e0, e1, e2, e3, k0, k1, k2, k3⟩ := ha.out.h3
      go_wp2_with fail
      rw [hr'.out]
      refine bodyPost_ret (v := mbV (.inl (x, k))) (by simp [results, Tryd.results69, go_sem, mbV, wd_zero, *]) rfl ⟨rfl, ?_⟩
      exact put6_below ha.out.hb (Nat.le_refl _) (by omega)
end Go.Proofs.YthffklhojdldkaaDoor
