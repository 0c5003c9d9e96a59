/- DERIVED. Walks: the law RunesBack. -/
import Derived.Test.YtiillgahnbimjaaDoorTxA
import Derived.Test.YtiillgahnbimjaaDoorLnA
import Derived.Test.YtiillgahnbimjaaDoorPlH
namespace Go.Proofs.YtiillgahnbimjaaDoor
open Go.RowKit

theorem fp_cases (l : List Int) : (∃ ec, fpV l = .tuple #[.string ⟨#[]⟩, .int .i64 ec] ∧ ec ≠ 0) ∨ (fpV l = .tuple #[.string (asText (l.flatMap enL)), .int .i64 0] ∧ l.length ≤ 4096 ∧ allCp l) := by
  unfold fpV
  split
  · exact .inl ⟨2, rfl, by omega⟩
  · split
    · next h1 h2 => exact .inr ⟨rfl, by omega, okL_iff.1 h2⟩
    · exact .inl ⟨30, rfl, by omega⟩

set_option maxRecDepth 100000 in
set_option maxHeartbeats 8000000 in
theorem back_bad (n : Int) (a : ByteArray) (A : Option Addr) (c : Nat) (l : List Int) (ha : a.size ≤ 140737488351232) (w : World) (h : InI w A c l) (hv : VB w) (ec : Int) (hE : fpV l = .tuple #[.string ⟨#[]⟩, .int .i64 ec]) (hec : ec ≠ 0) :
    Calls Tryd.prog 6 #[.int .i64 n, .string a, .slice A l.length c] w fun e w' => e = .returned (.bool true) ∧ Below w.heap.size w w' := by
  have H1 : Hid (Calls Tryd.prog 17 #[] w fun e w' => e = .returned (.bool true) ∧ Below w.heap.size w w') := works_any w hv
  have H2 : Hid (∀ w, Calls Tryd.prog 30 #[.int .i64 n] w fun e w' => e = .returned (enV n) ∧ w' = w) := fun w => encode_any n w
  have HR := (show Hid (∀ w', Below w.heap.size w w' → RdI w' A l) from fun w' hb => h.rd.below hb)
  have HE := (show Hid _ from hE)
  have ee : (ec != 0) = true := bne_iff_ne.2 hec
  clear h hv hE hec
  by_cases hn : cp n
  · rw [enV_t hn] at H2
    have H3 : Hid (∀ w, Calls Tryd.prog 31 #[.string (a ++ Utf8.encode n ++ a), .int .i64 (a.size : Int)] w fun e w' => e = .returned (.tuple #[.int .i64 n, .int .i64 (szI n : Int), .bool true]) ∧ Below w.heap.size w w') := fun w => by
      have e := decode_any (a ++ Utf8.encode n ++ a) (a.size : Int) w
      rw [dcI_in, dcd_mid a a hn] at e
      exact e
    have H4 : Hid (∀ w, Calls Tryd.prog 12 #[.string (Utf8.encode n)] w fun e w' => e = .returned (.bool true) ∧ Below w.heap.size w w') := fun w => by
      have e := valid_any (Utf8.encode n) w
      rwa [vld_enc hn] at e
    have hX : (Utf8.encode n).size = szI n := by rw [encode_eq hn, asText_size, enL_len hn]
    have hK := szI_bd n
    rw [← hX] at H3 hK
    clear hX
    generalize Utf8.encode n = X at *
    have k1 : decide ((X.size : Int) < 1) = false := decide_eq_false (by omega)
    have k2 : decide ((4 : Int) < (X.size : Int)) = false := decide_eq_false (by omega)
    have s1 : a.size + X.size ≤ 9223372036854775807 := by omega
    have s2 : a.size + X.size + a.size ≤ 9223372036854775807 := by omega
    clear hn
    go_enter Tryd.func6, Tryd.ntmps6
    go_wp2_with fail
    refine H1.out.mono ?_
    rintro e w1 ⟨rfl, hb1⟩
    have HB1 := (show Hid _ from hb1)
    clear hb1
    go_wp2_with fail
    refine (H2.out _).mono ?_
    rintro e w2 ⟨rfl, rfl⟩
    go_wp2_with fail
    refine (H3.out _).mono ?_
    rintro e w3 ⟨rfl, hb3⟩
    have HB3 := (show Hid (Below w.heap.size w w3) from HB1.out.trans (hb3.mono HB1.out.size))
    clear hb3 HB1
    go_wp2_with fail
    refine (H4.out _).mono ?_
    rintro e wk ⟨rfl, hb4⟩
    have HB4 := (show Hid (Below w.heap.size w wk) from HB3.out.trans (hb4.mono HB3.out.size))
    clear hb4 HB3 H1 H2 H3 H4 s1 s2 k1 k2 hK
    go_wp2_with fail
    refine (fromPoints_any A c l wk (HR.out wk HB4.out)).mono ?_
    rintro e w5 ⟨rfl, hb5⟩
    have HB5 := (show Hid (Below w.heap.size w w5) from HB4.out.trans (hb5.mono HB4.out.size))
    rw [HE.out]
    clear HB4 hb5 HR
    generalize l.length = m at *
    go_wp2
    go_ret
    exact ⟨rfl, HB5.out⟩
  · rw [enV_f hn] at H2
    have hnn : (decide (0 ≤ n) = false) ∨ (decide (0 ≤ n) = true ∧ decide (n < 55296) = false) := by
      unfold cp at hn
      by_cases q : 0 ≤ n
      · exact .inr ⟨decide_eq_true q, decide_eq_false (by omega)⟩
      · exact .inl (decide_eq_false q)
    clear hn
    go_enter Tryd.func6, Tryd.ntmps6
    go_wp2_with fail
    refine H1.out.mono ?_
    rintro e w1 ⟨rfl, hb1⟩
    have HB4 := (show Hid _ from hb1)
    clear hb1 H1
    go_wp2_with fail
    refine (H2.out _).mono ?_
    rintro e wk ⟨rfl, rfl⟩
    clear H2
    rcases hnn with hnn | ⟨hnn, hnn2⟩
    · go_wp2_with fail
      refine (fromPoints_any A c l wk (HR.out wk HB4.out)).mono ?_
      rintro e w5 ⟨rfl, hb5⟩
      have HB5 := (show Hid (Below w.heap.size w w5) from HB4.out.trans (hb5.mono HB4.out.size))
      rw [HE.out]
      clear HB4 hb5 HR
      generalize l.length = m at *
      go_wp2
      go_ret
      exact ⟨rfl, HB5.out⟩
    · go_wp2_with fail
      refine (fromPoints_any A c l wk (HR.out wk HB4.out)).mono ?_
      rintro e w5 ⟨rfl, hb5⟩
      have HB5 := (show Hid (Below w.heap.size w w5) from HB4.out.trans (hb5.mono HB4.out.size))
      rw [HE.out]
      clear HB4 hb5 HR
      generalize l.length = m at *
      go_wp2
      go_ret
      exact ⟨rfl, HB5.out⟩

set_option maxRecDepth 100000 in
set_option maxHeartbeats 8000000 in
theorem back_ok (n : Int) (a : ByteArray) (A : Option Addr) (c : Nat) (l : List Int) (ha : a.size ≤ 140737488351232) (w : World) (h : InI w A c l) (hv : VB w) (hE : fpV l = .tuple #[.string (asText (l.flatMap enL)), .int .i64 0]) (hl : l.length ≤ 4096) (hcp : allCp l) :
    Calls Tryd.prog 6 #[.int .i64 n, .string a, .slice A l.length c] w fun e w' => e = .returned (.bool true) ∧ Below w.heap.size w w' := by
  have H1 : Hid (Calls Tryd.prog 17 #[] w fun e w' => e = .returned (.bool true) ∧ Below w.heap.size w w') := works_any w hv
  have H2 : Hid (∀ w, Calls Tryd.prog 30 #[.int .i64 n] w fun e w' => e = .returned (enV n) ∧ w' = w) := fun w => encode_any n w
  have HR := (show Hid (∀ w', Below w.heap.size w w' → RdI w' A l) from fun w' hb => h.rd.below hb)
  have HE := (show Hid _ from hE)
  have H5 : Hid (∀ w, Calls Tryd.prog 9 #[.string (asText (l.flatMap enL))] w fun e w' => (∃ v, e = .returned (.tuple #[v, .agg #[.int .i64 0, .int .i64 0]]) ∧ w'.ownsRow w.heap.size 3 1 v l.length (inc l)) ∧ Below w.heap.size w w') := fun w => (points_any _ w).mono fun e w' ⟨h1, h2⟩ => by
    refine ⟨?_, h2⟩
    have h3 := h1.get
    have hs : ¬ 65536 < (asText (l.flatMap enL)).size := by have := flat_enL_le l; rw [asText_size]; omega
    have e2 : ptT (asText (l.flatMap enL)) = (l, 0, 0) := by unfold ptT; rw [if_neg hs, pts_text hcp]
    rw [e2] at h3
    exact h3
  have H6 : Hid (∀ w, Calls Tryd.prog 12 #[.string (asText (l.flatMap enL))] w fun e w' => e = .returned (.bool true) ∧ Below w.heap.size w w') := fun w => by
    have e := valid_any (asText (l.flatMap enL)) w
    rwa [vld_text hcp] at e
  have HG := (show Hid (∀ k, k < l.length → ∃ r, l[k]? = some r) from fun k hk => ⟨_, List.getElem?_eq_getElem hk⟩)
  clear h hv hE hcp
  generalize asText (l.flatMap enL) = T at *
  by_cases hn : cp n
  · rw [enV_t hn] at H2
    have H3 : Hid (∀ w, Calls Tryd.prog 31 #[.string (a ++ Utf8.encode n ++ a), .int .i64 (a.size : Int)] w fun e w' => e = .returned (.tuple #[.int .i64 n, .int .i64 (szI n : Int), .bool true]) ∧ Below w.heap.size w w') := fun w => by
      have e := decode_any (a ++ Utf8.encode n ++ a) (a.size : Int) w
      rw [dcI_in, dcd_mid a a hn] at e
      exact e
    have H4 : Hid (∀ w, Calls Tryd.prog 12 #[.string (Utf8.encode n)] w fun e w' => e = .returned (.bool true) ∧ Below w.heap.size w w') := fun w => by
      have e := valid_any (Utf8.encode n) w
      rwa [vld_enc hn] at e
    have hX : (Utf8.encode n).size = szI n := by rw [encode_eq hn, asText_size, enL_len hn]
    have hK := szI_bd n
    rw [← hX] at H3 hK
    clear hX
    generalize Utf8.encode n = X at *
    have k1 : decide ((X.size : Int) < 1) = false := decide_eq_false (by omega)
    have k2 : decide ((4 : Int) < (X.size : Int)) = false := decide_eq_false (by omega)
    have s1 : a.size + X.size ≤ 9223372036854775807 := by omega
    have s2 : a.size + X.size + a.size ≤ 9223372036854775807 := by omega
    clear hn
    go_enter Tryd.func6, Tryd.ntmps6
    go_wp2_with fail
    refine H1.out.mono ?_
    rintro e w1 ⟨rfl, hb1⟩
    have HB1 := (show Hid _ from hb1)
    clear hb1
    go_wp2_with fail
    refine (H2.out _).mono ?_
    rintro e w2 ⟨rfl, rfl⟩
    go_wp2_with fail
    refine (H3.out _).mono ?_
    rintro e w3 ⟨rfl, hb3⟩
    have HB3 := (show Hid (Below w.heap.size w w3) from HB1.out.trans (hb3.mono HB1.out.size))
    clear hb3 HB1
    go_wp2_with fail
    refine (H4.out _).mono ?_
    rintro e wk ⟨rfl, hb4⟩
    have HB4 := (show Hid (Below w.heap.size w wk) from HB3.out.trans (hb4.mono HB3.out.size))
    clear hb4 HB3 H1 H2 H3 H4 s1 s2 k1 k2 hK
    go_wp2_with fail
    refine (fromPoints_any A c l wk (HR.out wk HB4.out)).mono ?_
    rintro e w5 ⟨rfl, hb5⟩
    have HB5 := (show Hid (Below w.heap.size w w5) from HB4.out.trans (hb5.mono HB4.out.size))
    rw [HE.out]
    clear HB4 hb5 HE
    go_wp2_with fail
    refine (H5.out _).mono ?_
    rintro e w6 ⟨⟨v, rfl, hown⟩, hb6⟩
    have HB6 := (show Hid (Below w.heap.size w w6) from HB5.out.trans (hb6.mono HB5.out.size))
    obtain ⟨A2, c2, rfl, hr2⟩ := own_rd hown rfl
    have HR2 := (show Hid (RdI w6 A2 l) from hr2)
    clear HB5 hb6 hown hr2 H5
    go_wp2_with fail
    refine (H6.out _).mono ?_
    rintro e w7 ⟨rfl, hb7⟩
    have k67 := ((Below.refl w6.heap.size w6).alloc (Nat.le_refl _) (.cells #[.int .i64 0, .int .i64 0] 26)).trans (hb7.mono (by simp))
    have HB7 := (show Hid (Below w.heap.size w w7) from HB6.out.trans (k67.mono HB6.out.size))
    have HR7 := (show Hid (RdI w7 A2 l) from HR2.out.below k67)
    have HR8 := (show Hid (RdI w7 A l) from HR.out w7 HB7.out)
    clear HB6 hb7 HR2 k67 HR H6
    go_wp2_with fail
    go_loopw [15] (fun t wr => ∃ k : Nat, k ≤ l.length ∧ t = .int .i64 k ∧ Hid (Below w7.heap.size w7 wr)) (fun t _ => l.length - (intOf t).toNat)
    case atStart => exact ⟨0, by omega, by go_num, Below.refl _ _⟩
    case round =>
      obtain ⟨k, hk, rfl, HW⟩ := hrel
      by_cases hlt : k < l.length
      · obtain ⟨r, hr⟩ := HG.out k hlt
        obtain ⟨g1, o1, hc1⟩ := HR7.out (ne_of_get hlt)
        obtain ⟨g2, o2, hc2⟩ := HR8.out (ne_of_get hlt)
        have e1 := (hc1.below HW.out hc1.lt).c k r hr
        have e2 := (hc2.below HW.out hc2.lt).c k r hr
        obtain rfl := hc1.a
        obtain rfl := hc2.a
        have z0 : (0 : Int) ≤ (k : Int) := by omega
        have z1 : (k : Int) < (l.length : Int) := by omega
        clear hc1 hc2 hr HG HR7 HR8
        generalize l.length = m at *
        go_wp2_with fail
        go_quiet (fail)
        have HW2 := (show Hid (Below w7.heap.size w7 (wr.drewN nq)) from HW.out.trans (below_drewN (Below.refl _ _) _))
        generalize wr.drewN nq = w8 at *
        clear e1 e2 HW
        go_wp2
        go_roundw
        case rel => exact ⟨k + 1, by omega, by go_num, HW2⟩
        case measure => simp [intOf]; omega
      · obtain rfl : k = l.length := by omega
        clear HG HR7 HR8
        generalize l.length = m at *
        go_wp2
        go_ret
        exact ⟨rfl, HB7.out.trans (HW.out.mono HB7.out.size)⟩
  · rw [enV_f hn] at H2
    have hnn : (decide (0 ≤ n) = false) ∨ (decide (0 ≤ n) = true ∧ decide (n < 55296) = false) := by
      unfold cp at hn
      by_cases q : 0 ≤ n
      · exact .inr ⟨decide_eq_true q, decide_eq_false (by omega)⟩
      · exact .inl (decide_eq_false q)
    clear hn
    go_enter Tryd.func6, Tryd.ntmps6
    go_wp2_with fail
    refine H1.out.mono ?_
    rintro e w1 ⟨rfl, hb1⟩
    have HB4 := (show Hid _ from hb1)
    clear hb1 H1
    go_wp2_with fail
    refine (H2.out _).mono ?_
    rintro e wk ⟨rfl, rfl⟩
    clear H2
    rcases hnn with hnn | ⟨hnn, hnn2⟩
    · go_wp2_with fail
      refine (fromPoints_any A c l wk (HR.out wk HB4.out)).mono ?_
      rintro e w5 ⟨rfl, hb5⟩
      have HB5 := (show Hid (Below w.heap.size w w5) from HB4.out.trans (hb5.mono HB4.out.size))
      rw [HE.out]
      clear HB4 hb5 HE
      go_wp2_with fail
      refine (H5.out _).mono ?_
      rintro e w6 ⟨⟨v, rfl, hown⟩, hb6⟩
      have HB6 := (show Hid (Below w.heap.size w w6) from HB5.out.trans (hb6.mono HB5.out.size))
      obtain ⟨A2, c2, rfl, hr2⟩ := own_rd hown rfl
      have HR2 := (show Hid (RdI w6 A2 l) from hr2)
      clear HB5 hb6 hown hr2 H5
      go_wp2_with fail
      refine (H6.out _).mono ?_
      rintro e w7 ⟨rfl, hb7⟩
      have k67 := ((Below.refl w6.heap.size w6).alloc (Nat.le_refl _) (.cells #[.int .i64 0, .int .i64 0] 26)).trans (hb7.mono (by simp))
      have HB7 := (show Hid (Below w.heap.size w w7) from HB6.out.trans (k67.mono HB6.out.size))
      have HR7 := (show Hid (RdI w7 A2 l) from HR2.out.below k67)
      have HR8 := (show Hid (RdI w7 A l) from HR.out w7 HB7.out)
      clear HB6 hb7 HR2 k67 HR H6
      go_wp2_with fail
      go_loopw [15] (fun t wr => ∃ k : Nat, k ≤ l.length ∧ t = .int .i64 k ∧ Hid (Below w7.heap.size w7 wr)) (fun t _ => l.length - (intOf t).toNat)
      case atStart => exact ⟨0, by omega, by go_num, Below.refl _ _⟩
      case round =>
        obtain ⟨k, hk, rfl, HW⟩ := hrel
        by_cases hlt : k < l.length
        · obtain ⟨r, hr⟩ := HG.out k hlt
          obtain ⟨g1, o1, hc1⟩ := HR7.out (ne_of_get hlt)
          obtain ⟨g2, o2, hc2⟩ := HR8.out (ne_of_get hlt)
          have e1 := (hc1.below HW.out hc1.lt).c k r hr
          have e2 := (hc2.below HW.out hc2.lt).c k r hr
          obtain rfl := hc1.a
          obtain rfl := hc2.a
          have z0 : (0 : Int) ≤ (k : Int) := by omega
          have z1 : (k : Int) < (l.length : Int) := by omega
          clear hc1 hc2 hr HG HR7 HR8
          generalize l.length = m at *
          go_wp2_with fail
          go_quiet (fail)
          have HW2 := (show Hid (Below w7.heap.size w7 (wr.drewN nq)) from HW.out.trans (below_drewN (Below.refl _ _) _))
          generalize wr.drewN nq = w8 at *
          clear e1 e2 HW
          go_wp2
          go_roundw
          case rel => exact ⟨k + 1, by omega, by go_num, HW2⟩
          case measure => simp [intOf]; omega
        · obtain rfl : k = l.length := by omega
          clear HG HR7 HR8
          generalize l.length = m at *
          go_wp2
          go_ret
          exact ⟨rfl, HB7.out.trans (HW.out.mono HB7.out.size)⟩
    · go_wp2_with fail
      refine (fromPoints_any A c l wk (HR.out wk HB4.out)).mono ?_
      rintro e w5 ⟨rfl, hb5⟩
      have HB5 := (show Hid (Below w.heap.size w w5) from HB4.out.trans (hb5.mono HB4.out.size))
      rw [HE.out]
      clear HB4 hb5 HE
      go_wp2_with fail
      refine (H5.out _).mono ?_
      rintro e w6 ⟨⟨v, rfl, hown⟩, hb6⟩
      have HB6 := (show Hid (Below w.heap.size w w6) from HB5.out.trans (hb6.mono HB5.out.size))
      obtain ⟨A2, c2, rfl, hr2⟩ := own_rd hown rfl
      have HR2 := (show Hid (RdI w6 A2 l) from hr2)
      clear HB5 hb6 hown hr2 H5
      go_wp2_with fail
      refine (H6.out _).mono ?_
      rintro e w7 ⟨rfl, hb7⟩
      have k67 := ((Below.refl w6.heap.size w6).alloc (Nat.le_refl _) (.cells #[.int .i64 0, .int .i64 0] 26)).trans (hb7.mono (by simp))
      have HB7 := (show Hid (Below w.heap.size w w7) from HB6.out.trans (k67.mono HB6.out.size))
      have HR7 := (show Hid (RdI w7 A2 l) from HR2.out.below k67)
      have HR8 := (show Hid (RdI w7 A l) from HR.out w7 HB7.out)
      clear HB6 hb7 HR2 k67 HR H6
      go_wp2_with fail
      go_loopw [15] (fun t wr => ∃ k : Nat, k ≤ l.length ∧ t = .int .i64 k ∧ Hid (Below w7.heap.size w7 wr)) (fun t _ => l.length - (intOf t).toNat)
      case atStart => exact ⟨0, by omega, by go_num, Below.refl _ _⟩
      case round =>
        obtain ⟨k, hk, rfl, HW⟩ := hrel
        by_cases hlt : k < l.length
        · obtain ⟨r, hr⟩ := HG.out k hlt
          obtain ⟨g1, o1, hc1⟩ := HR7.out (ne_of_get hlt)
          obtain ⟨g2, o2, hc2⟩ := HR8.out (ne_of_get hlt)
          have e1 := (hc1.below HW.out hc1.lt).c k r hr
          have e2 := (hc2.below HW.out hc2.lt).c k r hr
          obtain rfl := hc1.a
          obtain rfl := hc2.a
          have z0 : (0 : Int) ≤ (k : Int) := by omega
          have z1 : (k : Int) < (l.length : Int) := by omega
          clear hc1 hc2 hr HG HR7 HR8
          generalize l.length = m at *
          go_wp2_with fail
          go_quiet (fail)
          have HW2 := (show Hid (Below w7.heap.size w7 (wr.drewN nq)) from HW.out.trans (below_drewN (Below.refl _ _) _))
          generalize wr.drewN nq = w8 at *
          clear e1 e2 HW
          go_wp2
          go_roundw
          case rel => exact ⟨k + 1, by omega, by go_num, HW2⟩
          case measure => simp [intOf]; omega
        · obtain rfl : k = l.length := by omega
          clear HG HR7 HR8
          generalize l.length = m at *
          go_wp2
          go_ret
          exact ⟨rfl, HB7.out.trans (HW.out.mono HB7.out.size)⟩

theorem back_any (n : Int) (a : ByteArray) (A : Option Addr) (c : Nat) (l : List Int) (ha : a.size ≤ 140737488351232) (w : World) (h : InI w A c l) (hv : VB w) :
    Calls Tryd.prog 6 #[.int .i64 n, .string a, .slice A l.length c] w fun e w' => e = .returned (.bool true) ∧ Below w.heap.size w w' := by
  rcases fp_cases l with ⟨ec, h1, h2⟩ | ⟨h1, h2, h3⟩
  · exact back_bad n a A c l ha w h hv ec h1 h2
  · exact back_ok n a A c l ha w h hv h1 h2 h3
end Go.Proofs.YtiillgahnbimjaaDoor
