/- DERIVED. Plain mathematics and walks, laid together (13). -/
import Derived.Test.YthffklhojdldkaaDoorLx12
namespace Go.Proofs.YthffklhojdldkaaDoor
open Go.RowKit
set_option maxRecDepth 100000 in
set_option maxHeartbeats 8000000 in
theorem readLiteral_any (s : ByteArray) (b : Nat) (hs : s.size ≤ 65536) (hb : b ≤ s.size) (hq : chr s b = 39 ∨ chr s b = 34) (w : World) : Calls Tryd.prog 25 #[.string s, .int .i64 b] w fun e w' => e = .returned (tokP (litR s b)) ∧ Below w.heap.size w w' := by
  have HF : Hid (∀ i e w, Calls Tryd.prog 45 #[.int .i64 i, .int .i64 e] w fun e' w' => e' = .returned (pairV tk0 i e) ∧ Below w.heap.size w w') := fun i e w => fault_any i e w
  have HC : Hid (∀ w, Calls Tryd.prog 49 #[.string s, .int .i64 b] w fun e w' => e = .returned (Q.cuV (Q.rdCut s b)) ∧ Below w.heap.size w w') := fun w => Q.cut_any s b w
  have HX := (show Hid (BX w ((w.alloc (tkO tk0)).alloc (fxO 0 0)) tk0 0 0) from BX.new w)
  have HU := (show Hid (litR s b = litP s b (Q.rdCut s b)) from (lit_same s b hs hb hq).symm)
  cases hr : Q.rdCut s b with
  | inr p =>
    obtain ⟨a, c⟩ := p
    obtain ⟨ha, hcc⟩ := rdCut_pos hs hb hq hr
    obtain ⟨a, rfl⟩ : ∃ k : Nat, a = k := ⟨a.toNat, by omega⟩
    rw [hr, litP, Int.toNat_natCast] at HU
    rw [hr] at HC
    clear hr ha hq
    unfold Q.cuV at HC
    rcases hcc with rfl | rfl
    · have HE : Hid (litR s b = .inr (a, 51)) := by show litR s b = _; rw [HU.out, if_pos rfl]
      clear HU
      go_enter Tryd.func25, Tryd.ntmps25
      go_wp2_with fail
      refine (HC.out _).mono ?_
      rintro e w2 ⟨rfl, b2⟩
      have HX2 := (show Hid (BX w (w2.alloc (fxO a 21)) tk0 0 0) from (HX.out.below b2).below (below_box _ _))
      clear b2 HX HC
      go_wp2_with fail
      refine (HF.out _ _ _).mono ?_
      rintro e w3 ⟨rfl, b3⟩
      have HX3 := (show Hid (BX w w3 tk0 0 0) from HX2.out.below b3)
      clear b3 HX2 HF
      obtain ⟨f0, f1', f2', f3, f4, f5, f6, f7, f8, g0, g1⟩ := HX3.out.fz
      obtain ⟨c0, c1, c2, c3, c4, c5, c6, c7, c8, d0, d1⟩ := HX3.out.cells
      unfold pairV
      go_wp2_with fail
      have HP := HX3.out.put tk0 a 51
      exact ret_bx rfl rfl rfl rfl HP ⟨by rw [HE.out]; rfl, HP.b⟩
    · by_cases hlt : a < s.size
      · have HE : Hid (litR s b = .inr (a, 50)) := by show litR s b = _; rw [HU.out, if_neg (by decide), if_pos ⟨rfl, by omega⟩]
        have z1 : (a : Int) < (s.size : Int) := by omega
        clear HU
        go_enter Tryd.func25, Tryd.ntmps25
        go_wp2_with fail
        refine (HC.out _).mono ?_
        rintro e w2 ⟨rfl, b2⟩
        have HX2 := (show Hid (BX w (w2.alloc (fxO a 22)) tk0 0 0) from (HX.out.below b2).below (below_box _ _))
        clear b2 HX HC
        go_wp2_with fail
        refine (HF.out _ _ _).mono ?_
        rintro e w3 ⟨rfl, b3⟩
        have HX3 := (show Hid (BX w w3 tk0 0 0) from HX2.out.below b3)
        clear b3 HX2 HF
        obtain ⟨f0, f1', f2', f3, f4, f5, f6, f7, f8, g0, g1⟩ := HX3.out.fz
        obtain ⟨c0, c1, c2, c3, c4, c5, c6, c7, c8, d0, d1⟩ := HX3.out.cells
        unfold pairV
        go_wp2_with fail
        have HP := HX3.out.put tk0 a 50
        exact ret_bx rfl rfl rfl rfl HP ⟨by rw [HE.out]; rfl, HP.b⟩
      · have HE : Hid (litR s b = .inr (b, 52)) := by show litR s b = _; rw [HU.out, if_neg (by decide), if_neg (by omega)]
        have z1 : ¬ (a : Int) < (s.size : Int) := by omega
        clear HU
        go_enter Tryd.func25, Tryd.ntmps25
        go_wp2_with fail
        refine (HC.out _).mono ?_
        rintro e w2 ⟨rfl, b2⟩
        have HX2 := (show Hid (BX w (w2.alloc (fxO a 22)) tk0 0 0) from (HX.out.below b2).below (below_box _ _))
        clear b2 HX HC
        go_wp2_with fail
        refine (HF.out _ _ _).mono ?_
        rintro e w3 ⟨rfl, b3⟩
        have HX3 := (show Hid (BX w w3 tk0 0 0) from HX2.out.below b3)
        clear b3 HX2 HF
        obtain ⟨f0, f1', f2', f3, f4, f5, f6, f7, f8, g0, g1⟩ := HX3.out.fz
        obtain ⟨c0, c1, c2, c3, c4, c5, c6, c7, c8, d0, d1⟩ := HX3.out.cells
        unfold pairV
        go_wp2_with fail
        have HP := HX3.out.put tk0 b 52
        exact ret_bx rfl rfl rfl rfl HP ⟨by rw [HE.out]; rfl, HP.b⟩
  | inl p =>
    obtain ⟨l, n⟩ := p
    rw [hr, litP] at HU
    rw [hr] at HC
    clear hr hq
    replace HC := (show Hid (∀ w, Calls Tryd.prog 49 #[.string s, .int .i64 b] w fun e w' => e = .returned (.tuple #[.string (asText l), .int .i64 n, .agg #[.int .i64 0, .int .i64 0]]) ∧ Below w.heap.size w w') from HC)
    have hsz : (asText l).size = l.length := asText_size l
    by_cases h255 : 255 < l.length
    · have HE : Hid (litR s b = .inr (b, 2)) := by show litR s b = _; rw [HU.out, if_pos h255]
      have z1 : (255 : Int) < ((asText l).size : Int) := by omega
      clear HU hsz h255
      generalize asText l = t at *
      go_enter Tryd.func25, Tryd.ntmps25
      go_wp2_with fail
      refine (HC.out _).mono ?_
      rintro e w2 ⟨rfl, b2⟩
      have HX2 := (show Hid (BX w (w2.alloc (fxO 0 0)) tk0 0 0) from (HX.out.below b2).below (below_box _ _))
      clear b2 HX HC
      go_wp2_with fail
      refine (HF.out _ _ _).mono ?_
      rintro e w3 ⟨rfl, b3⟩
      have HX3 := (show Hid (BX w w3 tk0 0 0) from HX2.out.below b3)
      clear b3 HX2 HF
      obtain ⟨f0, f1', f2', f3, f4, f5, f6, f7, f8, g0, g1⟩ := HX3.out.fz
      obtain ⟨c0, c1, c2, c3, c4, c5, c6, c7, c8, d0, d1⟩ := HX3.out.cells
      unfold pairV
      go_wp2_with fail
      have HP := HX3.out.put tk0 b 2
      exact ret_bx rfl rfl rfl rfl HP ⟨by rw [HE.out]; rfl, HP.b⟩
    · have HE : Hid (litR s b = .inl ⟨2, 0, b, n, asText l, 0, 0, 0, 0⟩) := by show litR s b = _; rw [HU.out, if_neg h255]
      have z1 : ¬ (255 : Int) < ((asText l).size : Int) := by omega
      clear HU hsz h255 HF
      generalize asText l = t at *
      go_enter Tryd.func25, Tryd.ntmps25
      go_wp2_with fail
      refine (HC.out _).mono ?_
      rintro e w2 ⟨rfl, b2⟩
      have HX2 := (show Hid (BX w w2 tk0 0 0) from HX.out.below b2)
      clear b2 HX HC
      obtain ⟨f0, f1', f2', f3, f4, f5, f6, f7, f8, g0, g1⟩ := HX2.out.fz
      obtain ⟨c0, c1, c2, c3, c4, c5, c6, c7, c8, d0, d1⟩ := HX2.out.cells
      have hsz2 := HX2.out.size
      have hl1 : w.heap.size < w2.heap.size := by omega
      have hne1 : w.heap.size ≠ w2.heap.size := by omega
      have hne2 : w.heap.size + 1 ≠ w2.heap.size := by omega
      go_wp2_with fail
      have HP := (HX2.out.put ⟨2, 0, b, n, t, 0, 0, 0, 0⟩ 0 0).below (below_box _ (fxO 0 0))
      exact ret_bx rfl rfl rfl rfl HP ⟨by rw [HE.out]; rfl, HP.b⟩
end Go.Proofs.YthffklhojdldkaaDoor

namespace Go.Proofs.YthffklhojdldkaaDoor
open Go.RowKit
def oneP (s : ByteArray) (b : Nat) : Sum Tk (Nat × Int) :=
  if hdB (chr s b) = true then nameR s b else if dgB (chr s b) = true then nmR s b b 4 else if chr s b = 39 ∨ chr s b = 34 then litR s b
  else if chr s b = 91 then clT s b (rdRead s b) else if chr s b = 37 then pctP s b else sigP s b
set_option maxRecDepth 100000 in
set_option maxHeartbeats 8000000 in
theorem rt_name (s : ByteArray) (b : Nat) (hs : s.size ≤ 65536) (hb : b < s.size) (h : hdB (chr s b) = true) (w : World) (hg : SG w) : Calls Tryd.prog 17 #[.string s, .int .i64 b] w fun e w' => e = .returned (tokP (oneP s b)) ∧ Below w.heap.size w w' := by
  have HX := (show Hid (BX w ((w.alloc (tkO tk0)).alloc (fxO 0 0)) tk0 0 0) from BX.new w)
  have HG := (show Hid (SG ((w.alloc (tkO tk0)).alloc (fxO 0 0))) from (hg.later (below_box _ _)).later (below_box _ _))
  have hc := chr_in hb
  have HH : Hid (∀ w, Calls Tryd.prog 21 #[.int .u8 (s[b].toNat : Int)] w fun e w' => e = .returned (.bool (hdB (chr s b))) ∧ w' = w) := fun w => by rw [hc]; exact pbegins_any _ w
  have HD : Hid (∀ w, Calls Tryd.prog 23 #[.int .u8 (s[b].toNat : Int)] w fun e w' => e = .returned (.bool (dgB (chr s b))) ∧ w' = w) := fun w => by rw [hc]; exact pdigit_any _ w
  have z0 : (0 : Int) ≤ (b : Int) := by omega
  have z1 : (b : Int) < (s.size : Int) := by omega
  clear hg
  have HN : Hid (∀ w, Calls Tryd.prog 22 #[.string s, .int .i64 b] w fun e w' => e = .returned (tokP (nameR s b)) ∧ Below w.heap.size w w') := fun w => readName_any s b (by omega) (by omega) w
  have HE : Hid (oneP s b = nameR s b) := by show oneP s b = _; unfold oneP; rw [if_pos h]
  rw [h] at HH
  clear HD HG hc h
  go_enter Tryd.func17, Tryd.ntmps17
  go_wp2_with fail
  refine (HH.out _).mono ?_
  rintro e w1 ⟨rfl, rfl⟩
  clear HH
  go_wp2_with fail
  refine (HN.out _).mono ?_
  rintro e w3 ⟨rfl, b3⟩
  have HX3 := (show Hid (BX w w3 tk0 0 0) from HX.out.below b3)
  clear b3 HX HN
  obtain ⟨f0, f1', f2', f3, f4, f5, f6, f7, f8, g0, g1⟩ := HX3.out.fz
  obtain ⟨c0, c1, c2, c3, c4, c5, c6, c7, c8, d0, d1⟩ := HX3.out.cells
  generalize nameR s b = r at *
  cases r with
  | inl t =>
    unfold tokP
    go_wp2_with fail
    have HP := HX3.out.put t 0 0
    exact ret_bx rfl rfl rfl rfl HP ⟨by rw [HE.out]; rfl, HP.b⟩
  | inr q =>
    unfold tokP
    go_wp2_with fail
    have HP := HX3.out.put tk0 q.1 q.2
    exact ret_bx rfl rfl rfl rfl HP ⟨by rw [HE.out]; rfl, HP.b⟩
set_option maxRecDepth 100000 in
set_option maxHeartbeats 8000000 in
theorem rt_num (s : ByteArray) (b : Nat) (hs : s.size ≤ 65536) (hb : b < s.size) (h : hdB (chr s b) = false) (h2 : dgB (chr s b) = true) (w : World) (hg : SG w) : Calls Tryd.prog 17 #[.string s, .int .i64 b] w fun e w' => e = .returned (tokP (oneP s b)) ∧ Below w.heap.size w w' := by
  have HX := (show Hid (BX w ((w.alloc (tkO tk0)).alloc (fxO 0 0)) tk0 0 0) from BX.new w)
  have HG := (show Hid (SG ((w.alloc (tkO tk0)).alloc (fxO 0 0))) from (hg.later (below_box _ _)).later (below_box _ _))
  have hc := chr_in hb
  have HH : Hid (∀ w, Calls Tryd.prog 21 #[.int .u8 (s[b].toNat : Int)] w fun e w' => e = .returned (.bool (hdB (chr s b))) ∧ w' = w) := fun w => by rw [hc]; exact pbegins_any _ w
  have HD : Hid (∀ w, Calls Tryd.prog 23 #[.int .u8 (s[b].toNat : Int)] w fun e w' => e = .returned (.bool (dgB (chr s b))) ∧ w' = w) := fun w => by rw [hc]; exact pdigit_any _ w
  have z0 : (0 : Int) ≤ (b : Int) := by omega
  have z1 : (b : Int) < (s.size : Int) := by omega
  clear hg
  have HN : Hid (∀ w, Calls Tryd.prog 24 #[.string s, .int .i64 b, .int .i64 b, .int .i64 4] w fun e w' => e = .returned (tokP (nmR s b b 4)) ∧ Below w.heap.size w w') := fun w => readNumber_any s b b 4 (by omega) (by omega) (by omega) w
  have HE : Hid (oneP s b = nmR s b b 4) := by show oneP s b = _; unfold oneP; rw [if_neg (by rw [h]; decide), if_pos h2]
  rw [h] at HH
  rw [h2] at HD
  clear HG hc h h2
  go_enter Tryd.func17, Tryd.ntmps17
  go_wp2_with fail
  refine (HH.out _).mono ?_
  rintro e w1 ⟨rfl, rfl⟩
  clear HH
  go_wp2_with fail
  refine (HD.out _).mono ?_
  rintro e w1 ⟨rfl, rfl⟩
  clear HD
  go_wp2_with fail
  refine (HN.out _).mono ?_
  rintro e w3 ⟨rfl, b3⟩
  have HX3 := (show Hid (BX w w3 tk0 0 0) from HX.out.below b3)
  clear b3 HX HN
  obtain ⟨f0, f1', f2', f3, f4, f5, f6, f7, f8, g0, g1⟩ := HX3.out.fz
  obtain ⟨c0, c1, c2, c3, c4, c5, c6, c7, c8, d0, d1⟩ := HX3.out.cells
  generalize nmR s b b 4 = r at *
  cases r with
  | inl t =>
    unfold tokP
    go_wp2_with fail
    have HP := HX3.out.put t 0 0
    exact ret_bx rfl rfl rfl rfl HP ⟨by rw [HE.out]; rfl, HP.b⟩
  | inr q =>
    unfold tokP
    go_wp2_with fail
    have HP := HX3.out.put tk0 q.1 q.2
    exact ret_bx rfl rfl rfl rfl HP ⟨by rw [HE.out]; rfl, HP.b⟩
set_option maxRecDepth 100000 in
set_option maxHeartbeats 8000000 in
theorem rt_lit1 (s : ByteArray) (b : Nat) (hs : s.size ≤ 65536) (hb : b < s.size) (h : hdB (chr s b) = false) (h2 : dgB (chr s b) = false) (h3 : chr s b = 39) (w : World) (hg : SG w) : Calls Tryd.prog 17 #[.string s, .int .i64 b] w fun e w' => e = .returned (tokP (oneP s b)) ∧ Below w.heap.size w w' := by
  have HX := (show Hid (BX w ((w.alloc (tkO tk0)).alloc (fxO 0 0)) tk0 0 0) from BX.new w)
  have HG := (show Hid (SG ((w.alloc (tkO tk0)).alloc (fxO 0 0))) from (hg.later (below_box _ _)).later (below_box _ _))
  have hc := chr_in hb
  have HH : Hid (∀ w, Calls Tryd.prog 21 #[.int .u8 (s[b].toNat : Int)] w fun e w' => e = .returned (.bool (hdB (chr s b))) ∧ w' = w) := fun w => by rw [hc]; exact pbegins_any _ w
  have HD : Hid (∀ w, Calls Tryd.prog 23 #[.int .u8 (s[b].toNat : Int)] w fun e w' => e = .returned (.bool (dgB (chr s b))) ∧ w' = w) := fun w => by rw [hc]; exact pdigit_any _ w
  have z0 : (0 : Int) ≤ (b : Int) := by omega
  have z1 : (b : Int) < (s.size : Int) := by omega
  clear hg
  have HN : Hid (∀ w, Calls Tryd.prog 25 #[.string s, .int .i64 b] w fun e w' => e = .returned (tokP (litR s b)) ∧ Below w.heap.size w w') := fun w => readLiteral_any s b hs (by omega) (.inl h3) w
  have HE : Hid (oneP s b = litR s b) := by show oneP s b = _; unfold oneP; rw [if_neg (by rw [h]; decide), if_neg (by rw [h2]; decide), if_pos (.inl h3)]
  rw [h] at HH
  rw [h2] at HD
  have v1 : ((s[b].toNat : Int) == 39) = true := by rw [← hc, h3]; rfl
  clear h3
  clear hc h h2 HG
  go_enter Tryd.func17, Tryd.ntmps17
  go_wp2_with fail
  refine (HH.out _).mono ?_
  rintro e w1 ⟨rfl, rfl⟩
  clear HH
  go_wp2_with fail
  refine (HD.out _).mono ?_
  rintro e w1 ⟨rfl, rfl⟩
  clear HD
  go_wp2_with fail
  refine (HN.out _).mono ?_
  rintro e w3 ⟨rfl, b3⟩
  have HX3 := (show Hid (BX w w3 tk0 0 0) from HX.out.below b3)
  clear b3 HX HN
  obtain ⟨f0, f1', f2', f3, f4, f5, f6, f7, f8, g0, g1⟩ := HX3.out.fz
  obtain ⟨c0, c1, c2, c3, c4, c5, c6, c7, c8, d0, d1⟩ := HX3.out.cells
  generalize litR s b = r at *
  cases r with
  | inl t =>
    unfold tokP
    go_wp2_with fail
    have HP := HX3.out.put t 0 0
    exact ret_bx rfl rfl rfl rfl HP ⟨by rw [HE.out]; rfl, HP.b⟩
  | inr q =>
    unfold tokP
    go_wp2_with fail
    have HP := HX3.out.put tk0 q.1 q.2
    exact ret_bx rfl rfl rfl rfl HP ⟨by rw [HE.out]; rfl, HP.b⟩
set_option maxRecDepth 100000 in
set_option maxHeartbeats 8000000 in
theorem rt_lit2 (s : ByteArray) (b : Nat) (hs : s.size ≤ 65536) (hb : b < s.size) (h : hdB (chr s b) = false) (h2 : dgB (chr s b) = false) (h3 : chr s b = 34) (w : World) (hg : SG w) : Calls Tryd.prog 17 #[.string s, .int .i64 b] w fun e w' => e = .returned (tokP (oneP s b)) ∧ Below w.heap.size w w' := by
  have HX := (show Hid (BX w ((w.alloc (tkO tk0)).alloc (fxO 0 0)) tk0 0 0) from BX.new w)
  have HG := (show Hid (SG ((w.alloc (tkO tk0)).alloc (fxO 0 0))) from (hg.later (below_box _ _)).later (below_box _ _))
  have hc := chr_in hb
  have HH : Hid (∀ w, Calls Tryd.prog 21 #[.int .u8 (s[b].toNat : Int)] w fun e w' => e = .returned (.bool (hdB (chr s b))) ∧ w' = w) := fun w => by rw [hc]; exact pbegins_any _ w
  have HD : Hid (∀ w, Calls Tryd.prog 23 #[.int .u8 (s[b].toNat : Int)] w fun e w' => e = .returned (.bool (dgB (chr s b))) ∧ w' = w) := fun w => by rw [hc]; exact pdigit_any _ w
  have z0 : (0 : Int) ≤ (b : Int) := by omega
  have z1 : (b : Int) < (s.size : Int) := by omega
  clear hg
  have HN : Hid (∀ w, Calls Tryd.prog 25 #[.string s, .int .i64 b] w fun e w' => e = .returned (tokP (litR s b)) ∧ Below w.heap.size w w') := fun w => readLiteral_any s b hs (by omega) (.inr h3) w
  have HE : Hid (oneP s b = litR s b) := by show oneP s b = _; unfold oneP; rw [if_neg (by rw [h]; decide), if_neg (by rw [h2]; decide), if_pos (.inr h3)]
  rw [h] at HH
  rw [h2] at HD
  have v1 : ((s[b].toNat : Int) == 39) = false := by rw [← hc, h3]; rfl
  have v2 : ((s[b].toNat : Int) == 34) = true := by rw [← hc, h3]; rfl
  clear h3
  clear hc h h2 HG
  go_enter Tryd.func17, Tryd.ntmps17
  go_wp2_with fail
  refine (HH.out _).mono ?_
  rintro e w1 ⟨rfl, rfl⟩
  clear HH
  go_wp2_with fail
  refine (HD.out _).mono ?_
  rintro e w1 ⟨rfl, rfl⟩
  clear HD
  go_wp2_with fail
  refine (HN.out _).mono ?_
  rintro e w3 ⟨rfl, b3⟩
  have HX3 := (show Hid (BX w w3 tk0 0 0) from HX.out.below b3)
  clear b3 HX HN
  obtain ⟨f0, f1', f2', f3, f4, f5, f6, f7, f8, g0, g1⟩ := HX3.out.fz
  obtain ⟨c0, c1, c2, c3, c4, c5, c6, c7, c8, d0, d1⟩ := HX3.out.cells
  generalize litR s b = r at *
  cases r with
  | inl t =>
    unfold tokP
    go_wp2_with fail
    have HP := HX3.out.put t 0 0
    exact ret_bx rfl rfl rfl rfl HP ⟨by rw [HE.out]; rfl, HP.b⟩
  | inr q =>
    unfold tokP
    go_wp2_with fail
    have HP := HX3.out.put tk0 q.1 q.2
    exact ret_bx rfl rfl rfl rfl HP ⟨by rw [HE.out]; rfl, HP.b⟩
set_option maxRecDepth 100000 in
set_option maxHeartbeats 8000000 in
theorem rt_cls (s : ByteArray) (b : Nat) (hs : s.size ≤ 65536) (hb : b < s.size) (h : hdB (chr s b) = false) (h2 : dgB (chr s b) = false) (h3 : chr s b = 91) (w : World) (hg : SG w) : Calls Tryd.prog 17 #[.string s, .int .i64 b] w fun e w' => e = .returned (tokP (oneP s b)) ∧ Below w.heap.size w w' := by
  have HX := (show Hid (BX w ((w.alloc (tkO tk0)).alloc (fxO 0 0)) tk0 0 0) from BX.new w)
  have HG := (show Hid (SG ((w.alloc (tkO tk0)).alloc (fxO 0 0))) from (hg.later (below_box _ _)).later (below_box _ _))
  have hc := chr_in hb
  have HH : Hid (∀ w, Calls Tryd.prog 21 #[.int .u8 (s[b].toNat : Int)] w fun e w' => e = .returned (.bool (hdB (chr s b))) ∧ w' = w) := fun w => by rw [hc]; exact pbegins_any _ w
  have HD : Hid (∀ w, Calls Tryd.prog 23 #[.int .u8 (s[b].toNat : Int)] w fun e w' => e = .returned (.bool (dgB (chr s b))) ∧ w' = w) := fun w => by rw [hc]; exact pdigit_any _ w
  have z0 : (0 : Int) ≤ (b : Int) := by omega
  have z1 : (b : Int) < (s.size : Int) := by omega
  clear hg
  have HN : Hid (∀ w, Calls Tryd.prog 26 #[.string s, .int .i64 b] w fun e w' => e = .returned (tokP (clT s b (rdRead s b))) ∧ Below w.heap.size w w') := fun w => readCls_any s b (by omega) w
  have HE : Hid (oneP s b = clT s b (rdRead s b)) := by show oneP s b = _; unfold oneP; rw [if_neg (by rw [h]; decide), if_neg (by rw [h2]; decide), if_neg (by omega), if_pos h3]
  rw [h] at HH
  rw [h2] at HD
  have v1 : ((s[b].toNat : Int) == 39) = false := by rw [← hc, beq_eq_false_iff_ne]; omega
  have v2 : ((s[b].toNat : Int) == 34) = false := by rw [← hc, beq_eq_false_iff_ne]; omega
  have v3 : ((s[b].toNat : Int) == 91) = true := by rw [← hc, h3]; rfl
  clear h3
  clear hc h h2 HG
  go_enter Tryd.func17, Tryd.ntmps17
  go_wp2_with fail
  refine (HH.out _).mono ?_
  rintro e w1 ⟨rfl, rfl⟩
  clear HH
  go_wp2_with fail
  refine (HD.out _).mono ?_
  rintro e w1 ⟨rfl, rfl⟩
  clear HD
  go_wp2_with fail
  refine (HN.out _).mono ?_
  rintro e w3 ⟨rfl, b3⟩
  have HX3 := (show Hid (BX w w3 tk0 0 0) from HX.out.below b3)
  clear b3 HX HN
  obtain ⟨f0, f1', f2', f3, f4, f5, f6, f7, f8, g0, g1⟩ := HX3.out.fz
  obtain ⟨c0, c1, c2, c3, c4, c5, c6, c7, c8, d0, d1⟩ := HX3.out.cells
  generalize clT s b (rdRead s b) = r at *
  cases r with
  | inl t =>
    unfold tokP
    go_wp2_with fail
    have HP := HX3.out.put t 0 0
    exact ret_bx rfl rfl rfl rfl HP ⟨by rw [HE.out]; rfl, HP.b⟩
  | inr q =>
    unfold tokP
    go_wp2_with fail
    have HP := HX3.out.put tk0 q.1 q.2
    exact ret_bx rfl rfl rfl rfl HP ⟨by rw [HE.out]; rfl, HP.b⟩
set_option maxRecDepth 100000 in
set_option maxHeartbeats 8000000 in
theorem rt_pct (s : ByteArray) (b : Nat) (hs : s.size ≤ 65536) (hb : b < s.size) (h : hdB (chr s b) = false) (h2 : dgB (chr s b) = false) (h3 : chr s b = 37) (w : World) (hg : SG w) : Calls Tryd.prog 17 #[.string s, .int .i64 b] w fun e w' => e = .returned (tokP (oneP s b)) ∧ Below w.heap.size w w' := by
  have HX := (show Hid (BX w ((w.alloc (tkO tk0)).alloc (fxO 0 0)) tk0 0 0) from BX.new w)
  have HG := (show Hid (SG ((w.alloc (tkO tk0)).alloc (fxO 0 0))) from (hg.later (below_box _ _)).later (below_box _ _))
  have hc := chr_in hb
  have HH : Hid (∀ w, Calls Tryd.prog 21 #[.int .u8 (s[b].toNat : Int)] w fun e w' => e = .returned (.bool (hdB (chr s b))) ∧ w' = w) := fun w => by rw [hc]; exact pbegins_any _ w
  have HD : Hid (∀ w, Calls Tryd.prog 23 #[.int .u8 (s[b].toNat : Int)] w fun e w' => e = .returned (.bool (dgB (chr s b))) ∧ w' = w) := fun w => by rw [hc]; exact pdigit_any _ w
  have z0 : (0 : Int) ≤ (b : Int) := by omega
  have z1 : (b : Int) < (s.size : Int) := by omega
  clear hg
  have HN : Hid (∀ w, SG w → Calls Tryd.prog 27 #[.string s, .int .i64 b] w fun e w' => e = .returned (tokP (pctP s b)) ∧ Below w.heap.size w w') := fun w g => readPercent_any s b (by omega) (by omega) w g
  have HE : Hid (oneP s b = pctP s b) := by show oneP s b = _; unfold oneP; rw [if_neg (by rw [h]; decide), if_neg (by rw [h2]; decide), if_neg (by omega), if_neg (by omega), if_pos h3]
  rw [h] at HH
  rw [h2] at HD
  have v1 : ((s[b].toNat : Int) == 39) = false := by rw [← hc, beq_eq_false_iff_ne]; omega
  have v2 : ((s[b].toNat : Int) == 34) = false := by rw [← hc, beq_eq_false_iff_ne]; omega
  have v3 : ((s[b].toNat : Int) == 91) = false := by rw [← hc, h3]; rfl
  have v4 : ((s[b].toNat : Int) == 37) = true := by rw [← hc, h3]; rfl
  clear h3
  clear hc h h2 
  go_enter Tryd.func17, Tryd.ntmps17
  go_wp2_with fail
  refine (HH.out _).mono ?_
  rintro e w1 ⟨rfl, rfl⟩
  clear HH
  go_wp2_with fail
  refine (HD.out _).mono ?_
  rintro e w1 ⟨rfl, rfl⟩
  clear HD
  go_wp2_with fail
  refine (HN.out _ HG.out).mono ?_
  rintro e w3 ⟨rfl, b3⟩
  have HX3 := (show Hid (BX w w3 tk0 0 0) from HX.out.below b3)
  clear b3 HX HN HG
  obtain ⟨f0, f1', f2', f3, f4, f5, f6, f7, f8, g0, g1⟩ := HX3.out.fz
  obtain ⟨c0, c1, c2, c3, c4, c5, c6, c7, c8, d0, d1⟩ := HX3.out.cells
  generalize pctP s b = r at *
  cases r with
  | inl t =>
    unfold tokP
    go_wp2_with fail
    have HP := HX3.out.put t 0 0
    exact ret_bx rfl rfl rfl rfl HP ⟨by rw [HE.out]; rfl, HP.b⟩
  | inr q =>
    unfold tokP
    go_wp2_with fail
    have HP := HX3.out.put tk0 q.1 q.2
    exact ret_bx rfl rfl rfl rfl HP ⟨by rw [HE.out]; rfl, HP.b⟩
set_option maxRecDepth 100000 in
set_option maxHeartbeats 8000000 in
theorem rt_sgn (s : ByteArray) (b : Nat) (hs : s.size ≤ 65536) (hb : b < s.size) (h : hdB (chr s b) = false) (h2 : dgB (chr s b) = false) (h3 : ¬ chr s b = 39) (h4 : ¬ chr s b = 34) (h5 : ¬ chr s b = 91) (h6 : ¬ chr s b = 37) (w : World) (hg : SG w) : Calls Tryd.prog 17 #[.string s, .int .i64 b] w fun e w' => e = .returned (tokP (oneP s b)) ∧ Below w.heap.size w w' := by
  have HX := (show Hid (BX w ((w.alloc (tkO tk0)).alloc (fxO 0 0)) tk0 0 0) from BX.new w)
  have HG := (show Hid (SG ((w.alloc (tkO tk0)).alloc (fxO 0 0))) from (hg.later (below_box _ _)).later (below_box _ _))
  have hc := chr_in hb
  have HH : Hid (∀ w, Calls Tryd.prog 21 #[.int .u8 (s[b].toNat : Int)] w fun e w' => e = .returned (.bool (hdB (chr s b))) ∧ w' = w) := fun w => by rw [hc]; exact pbegins_any _ w
  have HD : Hid (∀ w, Calls Tryd.prog 23 #[.int .u8 (s[b].toNat : Int)] w fun e w' => e = .returned (.bool (dgB (chr s b))) ∧ w' = w) := fun w => by rw [hc]; exact pdigit_any _ w
  have z0 : (0 : Int) ≤ (b : Int) := by omega
  have z1 : (b : Int) < (s.size : Int) := by omega
  clear hg
  have HN : Hid (∀ w, SG w → Calls Tryd.prog 28 #[.string s, .int .i64 b] w fun e w' => e = .returned (tokP (sigP s b)) ∧ Below w.heap.size w w') := fun w g => readSign_any s b (by omega) (by omega) w g
  have HE : Hid (oneP s b = sigP s b) := by show oneP s b = _; unfold oneP; rw [if_neg (by rw [h]; decide), if_neg (by rw [h2]; decide), if_neg (by omega), if_neg h5, if_neg h6]
  rw [h] at HH
  rw [h2] at HD
  have v1 : ((s[b].toNat : Int) == 39) = false := by rw [← hc, beq_eq_false_iff_ne]; omega
  have v2 : ((s[b].toNat : Int) == 34) = false := by rw [← hc, beq_eq_false_iff_ne]; omega
  have v3 : ((s[b].toNat : Int) == 91) = false := by rw [← hc, beq_eq_false_iff_ne]; exact h5
  have v4 : ((s[b].toNat : Int) == 37) = false := by rw [← hc, beq_eq_false_iff_ne]; exact h6
  clear h3 h4 h5 h6
  clear hc h h2 
  go_enter Tryd.func17, Tryd.ntmps17
  go_wp2_with fail
  refine (HH.out _).mono ?_
  rintro e w1 ⟨rfl, rfl⟩
  clear HH
  go_wp2_with fail
  refine (HD.out _).mono ?_
  rintro e w1 ⟨rfl, rfl⟩
  clear HD
  go_wp2_with fail
  refine (HN.out _ HG.out).mono ?_
  rintro e w3 ⟨rfl, b3⟩
  have HX3 := (show Hid (BX w w3 tk0 0 0) from HX.out.below b3)
  clear b3 HX HN HG
  obtain ⟨f0, f1', f2', f3, f4, f5, f6, f7, f8, g0, g1⟩ := HX3.out.fz
  obtain ⟨c0, c1, c2, c3, c4, c5, c6, c7, c8, d0, d1⟩ := HX3.out.cells
  generalize sigP s b = r at *
  cases r with
  | inl t =>
    unfold tokP
    go_wp2_with fail
    have HP := HX3.out.put t 0 0
    exact ret_bx rfl rfl rfl rfl HP ⟨by rw [HE.out]; rfl, HP.b⟩
  | inr q =>
    unfold tokP
    go_wp2_with fail
    have HP := HX3.out.put tk0 q.1 q.2
    exact ret_bx rfl rfl rfl rfl HP ⟨by rw [HE.out]; rfl, HP.b⟩
theorem readToken_any (s : ByteArray) (b : Nat) (hs : s.size ≤ 65536) (hb : b < s.size) (w : World) (hg : SG w) : Calls Tryd.prog 17 #[.string s, .int .i64 b] w fun e w' => e = .returned (tokP (oneP s b)) ∧ Below w.heap.size w w' := by
  cases h : hdB (chr s b) with
  | true => exact rt_name s b hs hb h w hg
  | false =>
    cases h2 : dgB (chr s b) with
    | true => exact rt_num s b hs hb h h2 w hg
    | false =>
      by_cases h3 : chr s b = 39
      · exact rt_lit1 s b hs hb h h2 h3 w hg
      by_cases h4 : chr s b = 34
      · exact rt_lit2 s b hs hb h h2 h4 w hg
      by_cases h5 : chr s b = 91
      · exact rt_cls s b hs hb h h2 h5 w hg
      by_cases h6 : chr s b = 37
      · exact rt_pct s b hs hb h h2 h6 w hg
      · exact rt_sgn s b hs hb h h2 h3 h4 h5 h6 w hg
end Go.Proofs.YthffklhojdldkaaDoor

namespace Go.Proofs.YthffklhojdldkaaDoor
open Go.RowKit
theorem ownB {W W' : World} {B e s n : Nat} {v : Value} {xs : List Value} (h : W.ownsRow B e s v n xs) (hb : Below W.heap.size W W') : W'.ownsRow B e s v n xs := by
  refine ⟨h.1, ?_⟩
  rcases h.2 with hn | ⟨g, cap, cur, rfl, hB, hgg, rest⟩
  · exact .inl hn
  · refine .inr ⟨g, cap, cur, rfl, hB, ?_, rest⟩
    rw [hb.block g (Array.getElem?_eq_some_iff.1 hgg).1]
    exact hgg
theorem gpGo_bd (s : ByteArray) : ∀ f i, i ≤ s.size → i ≤ gpGo s f i ∧ gpGo s f i ≤ s.size := by
  intro f
  induction f with
  | zero => intro i hi; exact ⟨Nat.le_refl _, hi⟩
  | succ f ih =>
    intro i hi
    rw [gpGo]
    split
    · split
      · have h1 := spN_ge lnB s (by decide) i
        have h2 := spN_le lnB s (by decide) i hi
        obtain ⟨a, b⟩ := ih (spN lnB s i) h2
        exact ⟨by omega, b⟩
      · split
        · obtain ⟨a, b⟩ := ih (i + 1) (by omega)
          exact ⟨by omega, b⟩
        · exact ⟨Nat.le_refl _, hi⟩
    · exact ⟨Nat.le_refl _, hi⟩
theorem gapN_bd {s : ByteArray} {i : Nat} (h : i ≤ s.size) : i ≤ gapN s i ∧ gapN s i ≤ s.size := gpGo_bd s _ i h
def tkV (t : Tk) : List Value := [.int .i64 t.kd, .int .i64 t.nn, .int .i64 t.fr, .int .i64 t.en, .string t.tx, .int .u64 t.s0, .int .u64 t.s1, .int .u64 t.s2, .int .u64 t.s3]
def tkc (l : List Tk) : List Value := l.flatMap tkV
theorem tkc_append (a b : List Tk) : tkc (a ++ b) = tkc a ++ tkc b := List.flatMap_append
theorem tkc_one (t : Tk) : tkc [t] = tkV t := by unfold tkc; rw [List.flatMap_cons, List.flatMap_nil, List.append_nil]
theorem tk_one (t : Tk) : ∀ u ∈ tkV t, u.oneCell' = true := fun u hu => by
  simp only [tkV, List.mem_cons, List.not_mem_nil, or_false] at hu
  rcases hu with rfl | rfl | rfl | rfl | rfl | rfl | rfl | rfl | rfl <;> rfl
def lexGo (one : Nat → Sum Tk (Nat × Int)) (s : ByteArray) : Nat → List Tk → Nat → Sum (List Tk) (Nat × Int)
  | 0, out, _ => .inl out
  | f + 1, out, i => if i < s.size then (match one i with
    | .inr q => .inr q
    | .inl t => lexGo one s f (out ++ [t]) (gapN s t.en.toNat)) else .inl out
def lexR (one : Nat → Sum Tk (Nat × Int)) (s : ByteArray) : Sum (List Tk) (Nat × Int) := if 65536 < s.size then .inr (0, 2) else lexGo one s (s.size + 1) [] (gapN s 0)
def LxV (w w' : World) (r : Sum (List Tk) (Nat × Int)) (e : Ending) : Prop := match r with
  | .inr q => e = .returned (.tuple #[.slice none 0 0, .int .i64 q.1, .int .i64 q.2])
  | .inl l => ∃ v, e = .returned (.tuple #[v, .int .i64 0, .int .i64 0]) ∧ w'.ownsRow w.heap.size 36 9 v l.length (tkc l)
theorem Tryd.info36 : (Tryd.prog.info? 36).map (fun i => (i.zero, i.size, i.bytes)) = some (some (tkG tk0), 9, 80) := by kernel_rfl
/-- While tokens are read. -/
structure AtX (one : Nat → Sum Tk (Nat × Int)) (w wr : World) (s : ByteArray) (v : Value) (out : List Tk) (i f : Nat) : Prop where
  hb : Below w.heap.size w wr
  ho : wr.ownsRow w.heap.size 36 9 v out.length (tkc out)
  hi : i ≤ s.size
  hf : s.size < f + i
  he : lexGo one s f out i = lexR one s
  hl : out.length ≤ i

set_option maxRecDepth 100000 in
set_option maxHeartbeats 8000000 in
theorem lex_of (one : Nat → Sum Tk (Nat × Int)) (s : ByteArray) (hs : s.size ≤ 140737488355000)
    (H1 : ∀ b, b < s.size → s.size ≤ 65536 → ∀ w, Calls Tryd.prog 19 #[.string s, .int .i64 (b : Nat)] w fun e w' => e = .returned (tokV (one b)) ∧ Below w.heap.size w w')
    (H2 : ∀ b t, b < s.size → one b = .inl t → ∃ e : Nat, t.en = e ∧ b < e ∧ e ≤ s.size) (H3 : ∀ b q, one b = .inr q → q.2 ≠ 0) (w : World) :
    Calls Tryd.prog 8 #[.string s] w fun e w' => LxV w w' (lexR one s) e ∧ Below w.heap.size w w' := by
  obtain ⟨i0, hinf, hz0, hz1, hz2⟩ := info_parts Tryd.info36
  have HG : Hid (∀ k w, k ≤ s.size → Calls Tryd.prog 18 #[.string s, .int .i64 ((k : Nat) : Int)] w fun e w' => e = .returned (.int .i64 (gapN s k)) ∧ w' = w) := fun k w hk => gap_any s k (by omega) hk w
  have HB0 := (show Hid (Below w.heap.size w w) from Below.refl _ _)
  by_cases h65 : 65536 < s.size
  · have HE : Hid (lexR one s = .inr (0, 2)) := by show lexR one s = _; unfold lexR; rw [if_pos h65]
    have t1 : decide (65536 < s.size) = true := decide_eq_true h65
    clear HG H1 H2 H3
    go_enter Tryd.func8, Tryd.ntmps8
    go_wp2_with fail
    refine bodyPost_ret (v := .tuple #[.slice none 0 0, .int .i64 0, .int .i64 2]) (by simp [results, Tryd.results8, go_sem]) rfl ⟨?_, HB0.out⟩
    rw [HE.out]
    exact rfl
  · have t1 : decide (65536 < s.size) = false := decide_eq_false h65
    have H0 := (show Hid (AtX one w w s (.slice none 0 0) [] (gapN s 0) (s.size + 1)) from ⟨Below.refl _ _, World.ownsRow_nil _ _ _ _, (gapN_bd (by omega)).2, by have := (gapN_bd (s := s) (i := 0) (by omega)).2; omega, by unfold lexR; rw [if_neg h65], Nat.zero_le _⟩)
    have HO := (show Hid (∀ b, b < s.size → ∀ w, Calls Tryd.prog 19 #[.string s, .int .i64 ((b : Nat) : Int)] w fun e w' => e = .returned (tokV (one b)) ∧ Below w.heap.size w w') from fun b hb w => H1 b hb (by omega) w)
    have HE := (show Hid ((∀ b t, b < s.size → one b = .inl t → ∃ e : Nat, t.en = e ∧ b < e ∧ e ≤ s.size) ∧ ∀ b q, one b = .inr q → q.2 ≠ 0) from ⟨H2, H3⟩)
    clear H1 H2 H3
    go_enter Tryd.func8, Tryd.ntmps8
    go_wp2_with fail
    refine (HG.out 0 _ (by omega)).mono ?_
    rintro e w ⟨rfl, rfl⟩
    go_wp2_with fail
    go_loopw [5, 6] (fun v t wr => ∃ (out : List Tk) (i f : Nat), t = .int .i64 i ∧ Hid (AtX one w wr s v out i f)) (fun _ t _ => s.size - (intOf t).toNat)
    case atStart => exact ⟨[], gapN s 0, s.size + 1, rfl, H0⟩
    case round =>
      obtain ⟨out, i, f, rfl, HW⟩ := hrel
      clear H0
      have hi := HW.out.hi
      have hf := HW.out.hf
      have hol := HW.out.hl
      by_cases hlt : i < s.size
      · have z1 : (i : Int) < (s.size : Int) := by omega
        obtain ⟨f, rfl⟩ : ∃ g, f = g + 1 := ⟨f - 1, by omega⟩
        have HU : Hid (lexR one s = match one i with
          | .inr q => .inr q
          | .inl t => lexGo one s f (out ++ [t]) (gapN s t.en.toNat)) := by show lexR one s = _; rw [← HW.out.he, lexGo, if_pos hlt]
        have HOi := (show Hid _ from HO.out i hlt)
        cases ho : one i with
        | inr q =>
          have hne := HE.out.2 i q ho
          have HV : Hid (lexR one s = .inr q) := by show lexR one s = _; rw [HU.out, ho]
          rw [ho] at HOi
          have t3 : (q.2 != 0) = true := by rw [bne, beq_eq_false_iff_ne.2 hne]; rfl
          clear HU HO HE HG ho hne
          go_wp2_with fail
          refine (HOi.out _).mono ?_
          rintro e w3 ⟨rfl, b3⟩
          have HB3 := (show Hid (Below w.heap.size w (w3.alloc (tkO tk0))) from (HW.out.hb.trans (b3.mono HW.out.hb.size)).alloc (Nat.le_trans HW.out.hb.size b3.size) _)
          clear b3 HOi
          unfold tokV
          go_wp2_with fail
          refine bodyPost_ret (v := .tuple #[.slice none 0 0, .int .i64 q.1, .int .i64 q.2]) (by simp [results, Tryd.results8, go_sem]) rfl ⟨?_, HB3.out⟩
          rw [HV.out]
          exact rfl
        | inl t =>
          obtain ⟨en, he1, he2, he3⟩ := HE.out.1 i t hlt ho
          have HV : Hid (lexGo one s f (out ++ [t]) (gapN s en) = lexR one s) := by show _ = lexR one s; rw [HU.out, ho]; show _ = lexGo one s f (out ++ [t]) (gapN s t.en.toNat); rw [he1]; rfl
          rw [ho] at HOi
          have hgb := gapN_bd he3
          have HGe := (show Hid (∀ w, Calls Tryd.prog 18 #[.string s, .int .i64 t.en] w fun e w' => e = .returned (.int .i64 (gapN s en)) ∧ w' = w) from fun w => by rw [he1]; exact HG.out en w he3)
          clear HU HO HE HG ho he1
          go_wp2_with fail
          refine (HOi.out _).mono ?_
          rintro e w3 ⟨rfl, b3⟩
          have hO : w3.ownsRow w.heap.size 36 9 u5 out.length (tkc out) := ownB HW.out.ho b3
          have HB3 := (show Hid (Below w.heap.size w w3) from HW.out.hb.trans (b3.mono HW.out.hb.size))
          have hs3 := HB3.out.size
          have HX := (show Hid (TX (w3.alloc (tkO t)) w3.heap.size t) from TX.new w3 t)
          clear b3 HOi HW
          unfold tokV
          obtain ⟨c0, c1, c2, c3, c4, c5, c6, c7, c8⟩ := HX.out.cells
          go_wp2_with (at_builtin; refine wpList_append_lies _ rfl _ _ 23 rfl w.heap.size 36 i0 (tkG tk0) 9 80 Tryd.underlying23 hinf hz0 hz1 hz2 rfl (by decide) _ _ _ rfl ((hO.alloc _).alloc _) ⟨w3.heap.size + 1, 0, none⟩ 1 1 (tkV t) rfl rfl ?c1 (tk_one _) (by decide) ?c3 ?c4 ?c5 (w3.heap.size + 2) (by simp) ?_)
          case c1 =>
            have hh := heap_alloc_new (w3.alloc (tkO t)) (.cells (tkC t) 36)
            rw [World.size_alloc] at hh
            exact World.news_of_block (cs := tkC t) (t := 36) (fr := (0, 0)) hh
          case c3 => unfold maxLen; omega
          case c4 => omega
          case c5 => first | omega | (simp; omega)
          intro g3 cap w4 hown hgrow hat _
          have hgo : ∀ k, u5.ownBlock = some k → w.heap.size ≤ k ∧ k < w3.heap.size := fun k e => hO.lt k e
          have HX4 := (show Hid (TX w4 w3.heap.size t) from (HX.out.below (below_box _ _)).grown hgrow (fun e => by have := (hgo _ e).2; omega))
          have HW4 := (show Hid (AtX one w w4 s (.slice (some ⟨g3, 0, none⟩) (out.length + 1) cap) (out ++ [t]) (gapN s en) f) from by
            refine ⟨((HB3.out.alloc hs3 _).alloc (by rw [World.size_alloc]; omega) _).grown hgrow (by rw [World.size_alloc, World.size_alloc]; omega) (fun k e => (hgo k e).1), ?_, hgb.2, by omega, HV.out, by rw [List.length_append, List.length_singleton]; omega⟩
            rw [List.length_append, List.length_singleton, tkc_append, tkc_one]
            exact hown)
          clear hown hgrow hat hgo hO HB3 HX HV c0 c1 c2 c3 c4 c5 c6 c7 c8
          have e3 := HX4.out.cells.c3
          go_wp2_with fail
          refine (HGe.out _).mono ?_
          rintro e w4 ⟨rfl, rfl⟩
          clear HGe e3 HX4
          go_wp2_with fail
          go_roundw
          case rel => exact ⟨_, gapN s en, f, rfl, HW4⟩
          case measure => simp [intOf]; omega
      · obtain rfl : i = s.size := by omega
        have z1 : ¬ (s.size : Int) < (s.size : Int) := by omega
        have HV : Hid (lexR one s = .inl out) := by
          show lexR one s = _
          rw [← HW.out.he]
          obtain ⟨f, rfl⟩ : ∃ g, f = g + 1 := ⟨f - 1, by omega⟩
          rw [lexGo, if_neg hlt]
        clear HO HE HG
        go_wp2_with fail
        refine bodyPost_ret (v := .tuple #[u5, .int .i64 0, .int .i64 0]) (by simp [results, Tryd.results8, go_sem]) rfl ⟨?_, HW.out.hb⟩
        rw [HV.out]
        exact ⟨u5, rfl, HW.out.ho⟩
end Go.Proofs.YthffklhojdldkaaDoor

namespace Go.Proofs.YthffklhojdldkaaDoor
open Go.RowKit
theorem gpGo_fuel (s : ByteArray) : ∀ (f g i : Nat), s.size - i < f → s.size - i < g → gpGo s f i = gpGo s g i := by
  intro f
  induction f with
  | zero => intro g i h; omega
  | succ f ih =>
    intro g i h1 h2
    obtain ⟨g, rfl⟩ : ∃ k, g = k + 1 := ⟨g - 1, by omega⟩
    rw [gpGo, gpGo]
    by_cases hi : i < s.size
    · rw [if_pos hi, if_pos hi]
      by_cases hc : chr s i = 45 ∧ chr s (i + 1) = 45
      · rw [if_pos hc, if_pos hc]
        have h3 := (spN_next (P := lnB) (s := s) (i := i) (by decide) (by rw [hc.1]; rfl)).2
        have h4 := spN_ge lnB s (by decide) (i + 1)
        exact ih g _ (by omega) (by omega)
      · rw [if_neg hc, if_neg hc]
        by_cases hb : chr s i = 9 ∨ chr s i = 10 ∨ chr s i = 13 ∨ chr s i = 32
        · rw [if_pos hb, if_pos hb]
          exact ih g _ (by omega) (by omega)
        · rw [if_neg hb, if_neg hb]
    · rw [if_neg hi, if_neg hi]
theorem gapN_unf (s : ByteArray) (i : Nat) : gapN s i = if i < s.size then (if chr s i = 45 ∧ chr s (i + 1) = 45 then gapN s (spN lnB s i) else if chr s i = 9 ∨ chr s i = 10 ∨ chr s i = 13 ∨ chr s i = 32 then gapN s (i + 1) else i) else i := by
  show gpGo s (s.size + 1) i = _
  rw [gpGo]
  by_cases hi : i < s.size
  · rw [if_pos hi, if_pos hi]
    by_cases hc : chr s i = 45 ∧ chr s (i + 1) = 45
    · rw [if_pos hc, if_pos hc]
      have h3 := (spN_next (P := lnB) (s := s) (i := i) (by decide) (by rw [hc.1]; rfl)).2
      have h4 := spN_ge lnB s (by decide) (i + 1)
      exact gpGo_fuel s _ _ _ (by omega) (by omega)
    · rw [if_neg hc, if_neg hc]
      by_cases hb : chr s i = 9 ∨ chr s i = 10 ∨ chr s i = 13 ∨ chr s i = 32
      · rw [if_pos hb, if_pos hb]
        exact gpGo_fuel s _ _ _ (by omega) (by omega)
      · rw [if_neg hb, if_neg hb]
  · rw [if_neg hi, if_neg hi]
theorem blB_iff {c : Int} : blB c = true ↔ (c = 9 ∨ c = 10 ∨ c = 13 ∨ c = 32) := by
  unfold blB
  simp [Bool.or_eq_true, or_assoc]
theorem gapN_blanks (s : ByteArray) : ∀ (d i : Nat), s.size - i = d → gapN s (spN blB s i) = gapN s i := by
  intro d
  induction d with
  | zero =>
    intro i hi
    rw [spN_stop (by rw [chr_out (by omega)]; rfl)]
  | succ d ih =>
    intro i hi
    cases h : blB (chr s i) with
    | false => rw [spN_stop h]
    | true =>
      obtain ⟨h1, h2⟩ := spN_next (by decide) h
      have h3 := blB_iff.1 h
      rw [h2, ih (i + 1) (by omega), gapN_unf s i, if_pos h1, if_neg (by omega), if_pos h3]
/-- Behind the blanks: the end, a comment, or the place. -/
theorem gapN_end {s : ByteArray} {i : Nat} (h : spN blB s i = s.size) : gapN s i = s.size := by
  rw [← gapN_blanks s _ i rfl, h, gapN_unf, if_neg (by omega)]
theorem gapN_note {s : ByteArray} {i : Nat} (h : chr s (spN blB s i) = 45) (h2 : chr s (spN blB s i + 1) = 45) : gapN s i = gapN s (spN lnB s (spN blB s i)) ∧ spN blB s i < spN lnB s (spN blB s i) := by
  have h3 := spN_next (P := lnB) (s := s) (i := spN blB s i) (by decide) (by rw [h]; rfl)
  have h4 := spN_ge lnB s (by decide) (spN blB s i + 1)
  refine ⟨?_, by omega⟩
  rw [← gapN_blanks s _ i rfl, gapN_unf, if_pos h3.1, if_pos ⟨h, h2⟩]
theorem gapN_here {s : ByteArray} {i : Nat} (h : spN blB s i < s.size) (h2 : ¬ (chr s (spN blB s i) = 45 ∧ chr s (spN blB s i + 1) = 45)) : gapN s i = spN blB s i := by
  have hb : blB (chr s (spN blB s i)) = false := (spN_spec blB s (by decide) _ i rfl).2.2.1
  have h3 : ¬ (chr s (spN blB s i) = 9 ∨ chr s (spN blB s i) = 10 ∨ chr s (spN blB s i) = 13 ∨ chr s (spN blB s i) = 32) := fun q => by rw [blB_iff.2 q] at hb; cases hb
  rw [← gapN_blanks s _ i rfl, gapN_unf, if_pos h, if_neg h2, if_neg h3]
end Go.Proofs.YthffklhojdldkaaDoor

namespace Go.Proofs.YthffklhojdldkaaDoor
open Go.RowKit
theorem litGo_en (s : ByteArray) (q : Int) (b : Nat) (hq : 0 ≤ q) : ∀ (f : Nat) (out : List Int) (i : Nat) (t : Tk), litGo s q b f out i = .inl t → ∃ e : Nat, t.en = e ∧ i < e ∧ e ≤ s.size := by
  intro f
  induction f with
  | zero => intro out i t h; rw [litGo] at h; cases h
  | succ f ih =>
    intro out i t h
    rw [litGo] at h
    split at h
    · cases h
    next h0 =>
    split at h
    next h1 =>
      split at h
      · cases h
      · cases h
        have := chr_lt (s := s) (i := i) (by omega)
        exact ⟨i + 1, rfl, by omega, by omega⟩
    split at h
    · cases h
    split at h
    · obtain ⟨e, h1, h2, h3⟩ := ih _ _ _ h
      exact ⟨e, h1, by omega, h3⟩
    · split at h
      · cases h
      · next c n he =>
        have h4 := escT_lt he
        obtain ⟨e, h1, h2, h3⟩ := ih _ _ _ h
        exact ⟨e, h1, by omega, h3⟩
theorem litGo_ne (s : ByteArray) (q : Int) (b : Nat) : ∀ (f : Nat) (out : List Int) (i : Nat) (p : Nat × Int), litGo s q b f out i = .inr p → p.2 ≠ 0 := by
  intro f
  induction f with
  | zero => intro out i p h; rw [litGo] at h; cases h; simp
  | succ f ih =>
    intro out i p h
    rw [litGo] at h
    split at h
    · cases h; simp
    split at h
    · split at h
      · cases h; simp
      · cases h
    split at h
    · cases h; simp
    split at h
    · exact ih _ _ _ h
    · split at h
      · cases h; simp
      · exact ih _ _ _ h
theorem numR_en {s : ByteArray} {d : Nat} {m n : Int} (h : numR s d m = .inl n) : d < spN dgB s d := by
  unfold numR at h
  split at h
  · cases h
  · omega
theorem nmR_en {s : ByteArray} {b d : Nat} {k : Int} {t : Tk} (hd : d ≤ s.size) (h : nmR s b d k = .inl t) : ∃ e : Nat, t.en = e ∧ d < e ∧ e ≤ s.size := by
  unfold nmR at h
  cases hn : numR s d (gtK k) with
  | inr e => rw [hn] at h; cases h
  | inl n =>
    rw [hn] at h
    cases h
    exact ⟨_, rfl, numR_en hn, spN_le dgB s (by decide) d hd⟩
theorem numR_no {s : ByteArray} {d : Nat} {m e : Int} (h : numR s d m = .inr e) : e ≠ 0 := by
  unfold numR at h
  split at h
  · cases h; simp
  · split at h
    · cases h; simp
    · cases h
theorem nmR_no {s : ByteArray} {b d : Nat} {k : Int} {q : Nat × Int} (h : nmR s b d k = .inr q) : q.2 ≠ 0 := by
  unfold nmR at h
  cases hn : numR s d (gtK k) with
  | inr e => rw [hn] at h; cases h; exact numR_no hn
  | inl n => rw [hn] at h; cases h
theorem nameR_no {s : ByteArray} {b : Nat} {q : Nat × Int} (h : nameR s b = .inr q) : q.2 ≠ 0 := by
  unfold nameR at h
  split at h
  · cases h; simp
  · cases h
theorem grpP_no {s : ByteArray} {b d : Nat} {q : Nat × Int} (h : grpP s b d = .inr q) : q.2 ≠ 0 := by
  unfold grpP at h
  split at h
  · split at h
    · cases h; simp
    · split at h <;> cases h
  · cases h
theorem grpP_en {s : ByteArray} {b d : Nat} {t : Tk} (hd : d ≤ s.size) (h : grpP s b d = .inl t) : ∃ e : Nat, t.en = e ∧ d ≤ e ∧ e ≤ s.size := by
  unfold grpP at h
  split at h
  · split at h
    · cases h
    · split at h
      · next hc =>
        cases h
        have h1 := spN_ge nmB s (by decide) d
        have h2 := chr_lt (s := s) (i := spN nmB s d) (by omega)
        exact ⟨_, rfl, by omega, by omega⟩
      · cases h; exact ⟨d, rfl, Nat.le_refl _, hd⟩
  · cases h; exact ⟨d, rfl, Nat.le_refl _, hd⟩
theorem sgGo_pos (s : ByteArray) (i : Nat) : ∀ l : List (Int × List UInt8), (∀ p ∈ l, p.1 ≠ 0 ∧ 1 ≤ p.2.length) → (sgGo s i l).1 = 0 ∨ 1 ≤ (sgGo s i l).2.length := by
  intro l
  induction l with
  | nil => intro _; exact .inl rfl
  | cons p l ih =>
    intro h
    rw [sgGo]
    split
    · exact .inr (h p (List.mem_cons_self ..)).2
    · exact ih (fun q hq => h q (List.mem_cons_of_mem _ hq))
theorem sgAt_pos (s : ByteArray) (i : Nat) : (sgAt s i).1 = 0 ∨ 1 ≤ (sgAt s i).2.length := sgGo_pos s i sgTab (by decide)
theorem sigP_en {s : ByteArray} {b : Nat} {t : Tk} (hb : b ≤ s.size) (h : sigP s b = .inl t) : ∃ e : Nat, t.en = e ∧ b < e ∧ e ≤ s.size := by
  have h1 := sgAt_len s b hb
  have h2 := sgAt_pos s b
  unfold sigP at h
  split at h
  · cases h
  next h0 =>
  have h3 : 1 ≤ (sgAt s b).2.length := by rcases h2 with q | q; exact absurd q h0; exact q
  split at h
  · obtain ⟨e, a1, a2, a3⟩ := nmR_en h1 h
    exact ⟨e, a1, by omega, a3⟩
  split at h
  · obtain ⟨e, a1, a2, a3⟩ := grpP_en h1 h
    exact ⟨e, a1, by omega, a3⟩
  · cases h
    exact ⟨_, rfl, by omega, h1⟩
theorem sigP_no {s : ByteArray} {b : Nat} {q : Nat × Int} (h : sigP s b = .inr q) : q.2 ≠ 0 := by
  unfold sigP at h
  split at h
  · cases h; simp
  split at h
  · exact nmR_no h
  split at h
  · exact grpP_no h
  · cases h
theorem ptsP_en {s : ByteArray} {b : Nat} {t : Tk} (hb : b + 3 ≤ s.size) (h : ptsP s b = .inl t) : ∃ e : Nat, t.en = e ∧ b < e ∧ e ≤ s.size := by
  have h1 := ptP_le hb
  unfold ptsP at h
  split at h
  · cases h
  split at h
  · next h45 =>
    have h2 := chr_lt (s := s) (i := (ptP s (b + 3)).2.1) (by omega)
    have h3 := ptP_le (s := s) (a := (ptP s (b + 3)).2.1 + 1) (by omega)
    split at h
    · cases h
    split at h
    · next hc =>
      cases h
      have h4 := chr_lt (s := s) (i := (ptP s ((ptP s (b + 3)).2.1 + 1)).2.1) (by omega)
      exact ⟨_, rfl, by omega, by omega⟩
    · cases h
  · split at h
    · next hc =>
      cases h
      have h4 := chr_lt (s := s) (i := (ptP s (b + 3)).2.1) (by omega)
      exact ⟨_, rfl, by omega, by omega⟩
    · cases h
theorem ptsP_no {s : ByteArray} {b : Nat} {q : Nat × Int} (h : ptsP s b = .inr q) : q.2 ≠ 0 := by
  unfold ptsP at h
  split at h
  · cases h; simp
  split at h
  · split at h
    · cases h; simp
    split at h
    · cases h
    · cases h; simp
  · split at h
    · cases h
    · cases h; simp
theorem pctP_en {s : ByteArray} {b : Nat} {t : Tk} (hb : b ≤ s.size) (h : pctP s b = .inl t) : ∃ e : Nat, t.en = e ∧ b < e ∧ e ≤ s.size := by
  unfold pctP at h
  split at h
  · next hp => exact ptsP_en (pfx_len hb hp) h
  split at h
  · exact sigP_en hb h
  split at h
  · next hc => cases h; exact ⟨_, rfl, by omega, by omega⟩
  · cases h
theorem pctP_no {s : ByteArray} {b : Nat} {q : Nat × Int} (h : pctP s b = .inr q) : q.2 ≠ 0 := by
  unfold pctP at h
  split at h
  · exact ptsP_no h
  split at h
  · exact sigP_no h
  split at h
  · cases h
  · cases h; simp
theorem oneP_no (s : ByteArray) (b : Nat) (q : Nat × Int) (h : oneP s b = .inr q) : q.2 ≠ 0 := by
  unfold oneP at h
  split at h
  · exact nameR_no h
  split at h
  · exact nmR_no h
  split at h
  · exact litGo_ne _ _ _ _ _ _ _ h
  split at h
  · unfold clT at h
    cases hr : rdRead s b with
    | inl p => rw [hr] at h; cases h
    | inr p =>
      obtain ⟨a, c⟩ := p
      rw [hr] at h
      have hne := rdRead_ne hr
      dsimp only at h
      split at h
      · cases h; simp
      · cases h; exact hne
  split at h
  · exact pctP_no h
  · exact sigP_no h
theorem rdRead_gt {s : ByteArray} {i : Nat} {x : BitVec 256} {n : Nat} (h : rdRead s i = .inl (x, n)) : i < n := by
  unfold rdRead at h
  split at h
  · simp at h
  · split at h
    · split at h
      · cases hm : rdMembers s (s.size + 1) 0#256 ((i : Int).toNat + 2) with
        | inr pq =>
          obtain ⟨a', c'⟩ := pq
          rw [hm] at h; simp [rdTurn] at h
        | inl p => obtain ⟨y, m⟩ := p; have b := rdMembers_ok hm; rw [hm] at h; simp only [rdTurn, Sum.inl.injEq, Prod.mk.injEq] at h; omega
      · cases hm : rdMembers s (s.size + 1) 0#256 ((i : Int).toNat + 1) with
        | inr pq =>
          obtain ⟨a', c'⟩ := pq
          rw [hm] at h; simp [rdEnd] at h
        | inl p => obtain ⟨y, m⟩ := p; have b := rdMembers_ok hm; rw [hm] at h; simp only [rdEnd, Sum.inl.injEq, Prod.mk.injEq] at h; omega
    · simp at h
theorem oneP_en (s : ByteArray) (b : Nat) (t : Tk) (hb : b < s.size) (h : oneP s b = .inl t) : ∃ e : Nat, t.en = e ∧ b < e ∧ e ≤ s.size := by
  unfold oneP at h
  split at h
  · next hh =>
    unfold nameR at h
    split at h
    · cases h
    · cases h
      have h1 := (spN_next (P := nmB) (s := s) (i := b) (by decide) (by unfold nmB; rw [hh]; rfl)).2
      have h2 := spN_ge nmB s (by decide) (b + 1)
      exact ⟨_, rfl, by omega, spN_le nmB s (by decide) b (by omega)⟩
  split at h
  · exact nmR_en (by omega) h
  split at h
  · next hq =>
    obtain ⟨e, a1, a2, a3⟩ := litGo_en s _ b (by omega) _ _ _ _ h
    exact ⟨e, a1, by omega, a3⟩
  split at h
  · cases hr : rdRead s b with
    | inr p =>
      rw [hr, clT] at h
      split at h <;> cases h
    | inl p =>
      obtain ⟨x, n⟩ := p
      rw [hr] at h
      cases h
      exact ⟨n, rfl, rdRead_gt hr, rdRead_ok hr⟩
  split at h
  · exact pctP_en (by omega) h
  · exact sigP_en (by omega) h
end Go.Proofs.YthffklhojdldkaaDoor

namespace Go.Proofs.YthffklhojdldkaaDoor
open Go.RowKit
/-- The bytes of two texts are the same, so many from two places on. -/
def Ag (s : ByteArray) (b : Nat) (s' : ByteArray) (b' : Nat) (m : Nat) : Prop := ∀ k, k < m → chr s' (b' + k) = chr s (b + k)
theorem Ag.at {s s' : ByteArray} {b b' m : Nat} (h : Ag s b s' b' m) {j j' : Nat} (hb : b ≤ j) (hj : j < b + m) (e : j' = b' + (j - b)) : chr s' j' = chr s j := by
  have := h (j - b) (by omega)
  rw [show b + (j - b) = j from by omega] at this
  rw [e]; exact this
theorem gapN_ge (s : ByteArray) (i : Nat) (h : i ≤ s.size) : i ≤ gapN s i := (gapN_bd h).1
end Go.Proofs.YthffklhojdldkaaDoor

namespace Go.Proofs.YthffklhojdldkaaDoor
open Go.RowKit
/-- The sign that two bytes begin. -/
def sgC (c0 c1 : Int) : Int × List UInt8 :=
  if c0 = 37 then (if c1 = 101 then (29, [37, 101]) else if c1 = 102 then (30, [37, 102]) else (0, []))
  else if c0 = 94 then (if c1 = 43 then (14, [94, 43]) else if c1 = 45 then (15, [94, 45]) else (13, [94]))
  else if c0 = 60 then (if c1 = 45 then (6, [60, 45]) else (0, []))
  else if c0 = 45 then (if c1 = 62 then (27, [45, 62]) else (0, []))
  else if c0 = 47 then (7, [47])
  else if c0 = 38 then (8, [38])
  else if c0 = 33 then (9, [33])
  else if c0 = 63 then (10, [63])
  else if c0 = 42 then (11, [42])
  else if c0 = 43 then (12, [43])
  else if c0 = 40 then (16, [40])
  else if c0 = 41 then (17, [41])
  else if c0 = 46 then (18, [46])
  else if c0 = 123 then (if c1 = 58 then (21, [123, 58]) else if c1 = 124 then (23, [123, 124]) else if c1 = 126 then (25, [123, 126]) else (19, [123]))
  else if c0 = 58 then (if c1 = 125 then (22, [58, 125]) else (0, []))
  else if c0 = 124 then (if c1 = 125 then (24, [124, 125]) else (0, []))
  else if c0 = 126 then (if c1 = 125 then (26, [126, 125]) else (0, []))
  else if c0 = 125 then (20, [125]) else (0, [])
def pfC (c0 c1 : Int) : List UInt8 → Bool
  | [] => true
  | [x] => c0 == (x.toNat : Int)
  | x :: y :: _ => c0 == (x.toNat : Int) && c1 == (y.toNat : Int)
def sgGC (c0 c1 : Int) : List (Int × List UInt8) → Int × List UInt8
  | [] => (0, [])
  | p :: l => if pfC c0 c1 p.2 = true then p else sgGC c0 c1 l
theorem pfx_C (s : ByteArray) (b : Nat) (l : List UInt8) (h : l.length ≤ 2) : pfx s b l = pfC (chr s b) (chr s (b + 1)) l := by
  match l, h with
  | [], _ => rfl
  | [x], _ => show (chr s b == (x.toNat : Int) && true) = _; rw [Bool.and_true]; rfl
  | [x, y], _ => show (chr s b == (x.toNat : Int) && (chr s (b + 1) == (y.toNat : Int) && true)) = _; rw [Bool.and_true]; rfl
theorem sgGo_C (s : ByteArray) (b : Nat) : ∀ l : List (Int × List UInt8), (∀ p ∈ l, p.2.length ≤ 2) → sgGo s b l = sgGC (chr s b) (chr s (b + 1)) l := by
  intro l
  induction l with
  | nil => intro _; rfl
  | cons p l ih =>
    intro h
    rw [sgGo, sgGC, pfx_C s b p.2 (h p (List.mem_cons_self ..)), ih (fun q hq => h q (List.mem_cons_of_mem _ hq))]
theorem sgGC_C (c0 c1 : Int) : sgGC c0 c1 sgTab = sgC c0 c1 := by
  unfold sgC
  by_cases h37 : c0 = 37
  · subst h37; simp [sgTab, sgGC, pfC]
    try (by_cases a1 : c1 = 101 <;> by_cases a2 : c1 = 102 <;> by_cases a3 : c1 = 43 <;> by_cases a4 : c1 = 45 <;> by_cases a5 : c1 = 62 <;> by_cases a6 : c1 = 58 <;> by_cases a7 : c1 = 124 <;> by_cases a8 : c1 = 126 <;> by_cases a9 : c1 = 125 <;> simp [*])
  by_cases h94 : c0 = 94
  · subst h94; simp [sgTab, sgGC, pfC]
    try (by_cases a1 : c1 = 101 <;> by_cases a2 : c1 = 102 <;> by_cases a3 : c1 = 43 <;> by_cases a4 : c1 = 45 <;> by_cases a5 : c1 = 62 <;> by_cases a6 : c1 = 58 <;> by_cases a7 : c1 = 124 <;> by_cases a8 : c1 = 126 <;> by_cases a9 : c1 = 125 <;> simp [*])
  by_cases h60 : c0 = 60
  · subst h60; simp [sgTab, sgGC, pfC]
    try (by_cases a1 : c1 = 101 <;> by_cases a2 : c1 = 102 <;> by_cases a3 : c1 = 43 <;> by_cases a4 : c1 = 45 <;> by_cases a5 : c1 = 62 <;> by_cases a6 : c1 = 58 <;> by_cases a7 : c1 = 124 <;> by_cases a8 : c1 = 126 <;> by_cases a9 : c1 = 125 <;> simp [*])
  by_cases h45 : c0 = 45
  · subst h45; simp [sgTab, sgGC, pfC]
    try (by_cases a1 : c1 = 101 <;> by_cases a2 : c1 = 102 <;> by_cases a3 : c1 = 43 <;> by_cases a4 : c1 = 45 <;> by_cases a5 : c1 = 62 <;> by_cases a6 : c1 = 58 <;> by_cases a7 : c1 = 124 <;> by_cases a8 : c1 = 126 <;> by_cases a9 : c1 = 125 <;> simp [*])
  by_cases h47 : c0 = 47
  · subst h47; simp [sgTab, sgGC, pfC]
    try (by_cases a1 : c1 = 101 <;> by_cases a2 : c1 = 102 <;> by_cases a3 : c1 = 43 <;> by_cases a4 : c1 = 45 <;> by_cases a5 : c1 = 62 <;> by_cases a6 : c1 = 58 <;> by_cases a7 : c1 = 124 <;> by_cases a8 : c1 = 126 <;> by_cases a9 : c1 = 125 <;> simp [*])
  by_cases h38 : c0 = 38
  · subst h38; simp [sgTab, sgGC, pfC]
    try (by_cases a1 : c1 = 101 <;> by_cases a2 : c1 = 102 <;> by_cases a3 : c1 = 43 <;> by_cases a4 : c1 = 45 <;> by_cases a5 : c1 = 62 <;> by_cases a6 : c1 = 58 <;> by_cases a7 : c1 = 124 <;> by_cases a8 : c1 = 126 <;> by_cases a9 : c1 = 125 <;> simp [*])
  by_cases h33 : c0 = 33
  · subst h33; simp [sgTab, sgGC, pfC]
    try (by_cases a1 : c1 = 101 <;> by_cases a2 : c1 = 102 <;> by_cases a3 : c1 = 43 <;> by_cases a4 : c1 = 45 <;> by_cases a5 : c1 = 62 <;> by_cases a6 : c1 = 58 <;> by_cases a7 : c1 = 124 <;> by_cases a8 : c1 = 126 <;> by_cases a9 : c1 = 125 <;> simp [*])
  by_cases h63 : c0 = 63
  · subst h63; simp [sgTab, sgGC, pfC]
    try (by_cases a1 : c1 = 101 <;> by_cases a2 : c1 = 102 <;> by_cases a3 : c1 = 43 <;> by_cases a4 : c1 = 45 <;> by_cases a5 : c1 = 62 <;> by_cases a6 : c1 = 58 <;> by_cases a7 : c1 = 124 <;> by_cases a8 : c1 = 126 <;> by_cases a9 : c1 = 125 <;> simp [*])
  by_cases h42 : c0 = 42
  · subst h42; simp [sgTab, sgGC, pfC]
    try (by_cases a1 : c1 = 101 <;> by_cases a2 : c1 = 102 <;> by_cases a3 : c1 = 43 <;> by_cases a4 : c1 = 45 <;> by_cases a5 : c1 = 62 <;> by_cases a6 : c1 = 58 <;> by_cases a7 : c1 = 124 <;> by_cases a8 : c1 = 126 <;> by_cases a9 : c1 = 125 <;> simp [*])
  by_cases h43 : c0 = 43
  · subst h43; simp [sgTab, sgGC, pfC]
    try (by_cases a1 : c1 = 101 <;> by_cases a2 : c1 = 102 <;> by_cases a3 : c1 = 43 <;> by_cases a4 : c1 = 45 <;> by_cases a5 : c1 = 62 <;> by_cases a6 : c1 = 58 <;> by_cases a7 : c1 = 124 <;> by_cases a8 : c1 = 126 <;> by_cases a9 : c1 = 125 <;> simp [*])
  by_cases h40 : c0 = 40
  · subst h40; simp [sgTab, sgGC, pfC]
    try (by_cases a1 : c1 = 101 <;> by_cases a2 : c1 = 102 <;> by_cases a3 : c1 = 43 <;> by_cases a4 : c1 = 45 <;> by_cases a5 : c1 = 62 <;> by_cases a6 : c1 = 58 <;> by_cases a7 : c1 = 124 <;> by_cases a8 : c1 = 126 <;> by_cases a9 : c1 = 125 <;> simp [*])
  by_cases h41 : c0 = 41
  · subst h41; simp [sgTab, sgGC, pfC]
    try (by_cases a1 : c1 = 101 <;> by_cases a2 : c1 = 102 <;> by_cases a3 : c1 = 43 <;> by_cases a4 : c1 = 45 <;> by_cases a5 : c1 = 62 <;> by_cases a6 : c1 = 58 <;> by_cases a7 : c1 = 124 <;> by_cases a8 : c1 = 126 <;> by_cases a9 : c1 = 125 <;> simp [*])
  by_cases h46 : c0 = 46
  · subst h46; simp [sgTab, sgGC, pfC]
    try (by_cases a1 : c1 = 101 <;> by_cases a2 : c1 = 102 <;> by_cases a3 : c1 = 43 <;> by_cases a4 : c1 = 45 <;> by_cases a5 : c1 = 62 <;> by_cases a6 : c1 = 58 <;> by_cases a7 : c1 = 124 <;> by_cases a8 : c1 = 126 <;> by_cases a9 : c1 = 125 <;> simp [*])
  by_cases h123 : c0 = 123
  · subst h123; simp [sgTab, sgGC, pfC]
    try (by_cases a1 : c1 = 101 <;> by_cases a2 : c1 = 102 <;> by_cases a3 : c1 = 43 <;> by_cases a4 : c1 = 45 <;> by_cases a5 : c1 = 62 <;> by_cases a6 : c1 = 58 <;> by_cases a7 : c1 = 124 <;> by_cases a8 : c1 = 126 <;> by_cases a9 : c1 = 125 <;> simp [*])
  by_cases h58 : c0 = 58
  · subst h58; simp [sgTab, sgGC, pfC]
    try (by_cases a1 : c1 = 101 <;> by_cases a2 : c1 = 102 <;> by_cases a3 : c1 = 43 <;> by_cases a4 : c1 = 45 <;> by_cases a5 : c1 = 62 <;> by_cases a6 : c1 = 58 <;> by_cases a7 : c1 = 124 <;> by_cases a8 : c1 = 126 <;> by_cases a9 : c1 = 125 <;> simp [*])
  by_cases h124 : c0 = 124
  · subst h124; simp [sgTab, sgGC, pfC]
    try (by_cases a1 : c1 = 101 <;> by_cases a2 : c1 = 102 <;> by_cases a3 : c1 = 43 <;> by_cases a4 : c1 = 45 <;> by_cases a5 : c1 = 62 <;> by_cases a6 : c1 = 58 <;> by_cases a7 : c1 = 124 <;> by_cases a8 : c1 = 126 <;> by_cases a9 : c1 = 125 <;> simp [*])
  by_cases h126 : c0 = 126
  · subst h126; simp [sgTab, sgGC, pfC]
    try (by_cases a1 : c1 = 101 <;> by_cases a2 : c1 = 102 <;> by_cases a3 : c1 = 43 <;> by_cases a4 : c1 = 45 <;> by_cases a5 : c1 = 62 <;> by_cases a6 : c1 = 58 <;> by_cases a7 : c1 = 124 <;> by_cases a8 : c1 = 126 <;> by_cases a9 : c1 = 125 <;> simp [*])
  by_cases h125 : c0 = 125
  · subst h125; simp [sgTab, sgGC, pfC]
    try (by_cases a1 : c1 = 101 <;> by_cases a2 : c1 = 102 <;> by_cases a3 : c1 = 43 <;> by_cases a4 : c1 = 45 <;> by_cases a5 : c1 = 62 <;> by_cases a6 : c1 = 58 <;> by_cases a7 : c1 = 124 <;> by_cases a8 : c1 = 126 <;> by_cases a9 : c1 = 125 <;> simp [*])
  simp [sgTab, sgGC, pfC, *]
theorem sgAt_C (s : ByteArray) (b : Nat) : sgAt s b = sgC (chr s b) (chr s (b + 1)) := by
  rw [← sgGC_C]
  exact sgGo_C s b sgTab (by decide)
end Go.Proofs.YthffklhojdldkaaDoor
