/- DERIVED. Walks: the law of just these. -/
import Derived.Test.YtiillgahnbimjabDoorJuE
import Derived.Deep.AppendLies
import Derived.Deep.RegionHeld3
namespace Go.Proofs.YtiillgahnbimjabDoor
open Go.RowKit

/-- The byte that the law builds lies within its span. -/
theorem bv_in (p q x : Int) (o1 : 0 ≤ p) (o2 : p ≤ q) (o3 : q ≤ 255) : p ≤ IntKind.u8.wrap (IntKind.i64.wrap (p + IntKind.i64.wrap ((IntKind.u64.wrap x).tmod (q - p + 1)))) ∧ IntKind.u8.wrap (IntKind.i64.wrap (p + IntKind.i64.wrap ((IntKind.u64.wrap x).tmod (q - p + 1)))) ≤ q := by
  have h0 : 0 ≤ IntKind.u64.wrap x := by rw [IntKind.wrap_u64]; omega
  generalize IntKind.u64.wrap x = y at *
  have h1 : 0 ≤ y.tmod (q - p + 1) ∧ y.tmod (q - p + 1) < q - p + 1 := by
    rw [Int.tmod_eq_emod_of_nonneg h0]
    exact ⟨Int.emod_nonneg _ (by omega), Int.emod_lt_of_pos _ (by omega)⟩
  generalize y.tmod (q - p + 1) = z at *
  rw [show IntKind.i64.wrap z = z from by rw [IntKind.wrap_i64]; omega, show IntKind.i64.wrap (p + z) = p + z from by rw [IntKind.wrap_i64]; omega, show IntKind.u8.wrap (p + z) = p + z from by rw [IntKind.wrap_u8]; omega]
  omega
theorem RR.val {W : World} {B : Nat} {v : Value} {ss : List Shape} {xs : List Value} (h : RR W B v ss xs) : ∃ A c, v = .slice A ss.length c := by
  have hlx := h.len
  rcases h.o.2 with ⟨rfl, h0⟩ | ⟨g, cap, cur, rfl, _⟩
  · exact ⟨none, 0, by rw [← hlx, h0]⟩
  · exact ⟨_, _, by rw [hlx]⟩

set_option maxRecDepth 100000 in
set_option maxHeartbeats 16000000 in
theorem just_ok (lo hi : Int) (A : Option Addr) (c : Nat) (l : List Int) (hl : l.length * 8 ≤ 140737488351232) (w : World) (hin : InI w A c l) (hv : VB w) (hb : 0 ≤ lo ∧ lo ≤ hi ∧ hi ≤ 1114111) :
    Calls Tryd.prog 3 #[.int .i64 lo, .int .i64 hi, .slice A l.length c] w fun e w' => e = .returned (.bool true) ∧ Below w.heap.size w w' := by
  obtain ⟨i5, hinf5, hy0, hy1, hy2⟩ := info_parts Tryd.info5
  obtain ⟨hlo, hlh, hhi⟩ := hb
  have HWk : Hid (Calls Tryd.prog 4 #[] w fun e w' => e = .returned (.bool true) ∧ Below w.heap.size w w') := works_any w hv
  have HS : Hid (∀ w1, Below w.heap.size w w1 → Calls Tryd.prog 5 #[.int .i64 lo, .int .i64 hi] w1 fun e w' => (∃ v xs, e = .returned (.tuple #[v, .int .i64 0]) ∧ RR w' w1.heap.size v (shAll lo hi) xs) ∧ Below w1.heap.size w1 w') := fun w1 b1 =>
    (shapes_any lo hi w1 (hv.below b1 hv.lt)).mono fun e w' ⟨h1, h2⟩ => ⟨shv_ok h1 ⟨hlo, hlh, hhi⟩, h2⟩
  have HIn := (show Hid _ from hin)
  have HO := (show Hid _ from shAll_ord lo hi)
  have HC := (show Hid (∀ r, cp r → (shAll lo hi).countP (inL (enL r)) = if lo ≤ r ∧ r ≤ hi then 1 else 0) from fun r hr => cnt_all lo hi hr)
  have HBk := (show Hid (∀ s ∈ shAll lo hi, ∀ T, inL T s = true → ∃ r, cp r ∧ lo ≤ r ∧ r ≤ hi ∧ T = enL r) from fun s hs T hT => back_all hs hT)
  have HLn := shTo_len lo hi 5
  rw [shTo_all] at HLn
  generalize shAll lo hi = ss at *
  clear hv hin
  have q1 : IntKind.i64.wrap (lo - 1) = lo - 1 := by rw [IntKind.wrap_i64]; omega
  have q2 : IntKind.i64.wrap (hi + 1) = hi + 1 := by rw [IntKind.wrap_i64]; omega
  go_enter Tryd.func3, Tryd.ntmps3
  go_wp2_with fail
  refine HWk.out.mono ?_
  rintro e w1 ⟨rfl, hb1⟩
  have B1 := (show Hid _ from hb1)
  clear hb1 HWk
  go_wp2_with fail
  refine (HS.out _ B1.out).mono ?_
  rintro e w2 ⟨⟨v, xs, rfl, hR⟩, hb2⟩
  obtain ⟨Ax, cx, rfl⟩ := hR.val
  have R2 := (show Hid _ from hR)
  have B2 := (show Hid (Below w.heap.size w w2) from B1.out.trans (hb2.mono B1.out.size))
  clear hb2 B1 HS hR
  have HI2 := (show Hid (InI (w2.alloc (.cells #[.int .i64 lo, .int .i64 hi, .int .i64 (lo - 1), .int .i64 (hi + 1)] 3)) A c l) from InI.below (InI.below HIn.out B2.out) ((Below.refl _ _).alloc (Nat.le_refl _) _))
  go_wp2_with (at_builtin; refine wpList_append_in rfl _ _ rfl rfl rfl (own_four w2 lo hi (lo - 1) (hi + 1)) HI2.out ?c1 ?c2 ?_)
  case c1 => simp
  case c2 => omega
  intro v3 w3 hO3 hg3
  have B3 := (show Hid (Below w2.heap.size w2 w3) from ((Below.refl _ w2).alloc (Nat.le_refl _) _).grown hg3 (by simp) (fun j e => by cases e; exact Nat.le_refl _))
  replace hO3 : w3.ownsRow w2.heap.size 3 1 v3 (4 + l.length) (inc ([lo, hi, lo - 1, hi + 1] ++ l)) := by rw [inc_append]; exact hO3
  obtain ⟨A3, c3, rfl, hr3⟩ := own_rd hO3 (by simp; omega)
  have RD := (show Hid _ from hr3)
  have hLb : ([lo, hi, lo - 1, hi + 1] ++ l).length ≤ 17592186044420 := by simp; omega
  generalize [lo, hi, lo - 1, hi + 1] ++ l = L at *
  have R3 := (show Hid (RR w3 w1.heap.size (.slice Ax ss.length cx) ss xs) from R2.out.below B3.out)
  have B03 := (show Hid (Below w.heap.size w w3) from B2.out.trans (B3.out.mono B2.out.size))
  have HI3 := (show Hid (InI w3 A c l) from InI.below HIn.out B03.out)
  clear hO3 hg3 hr3 R2 HI2 B2 B3 q1 q2
  have HGL := (show Hid (∀ k, k < L.length → ∃ r, L[k]? = some r) from fun k hk => ⟨_, List.getElem?_eq_getElem hk⟩)
  have HGS := (show Hid (∀ k, k < ss.length → ∃ s, ss[k]? = some s ∧ s ∈ ss) from fun k hk => ⟨_, List.getElem?_eq_getElem hk, List.getElem_mem hk⟩)
  go_wp2_with fail
  go_loopw [69] (fun t wr => ∃ k : Nat, k ≤ L.length ∧ t = .int .i64 k ∧ Hid (Below w3.heap.size w3 wr)) (fun t _ => L.length - (intOf t).toNat)
  case atStart => exact ⟨0, by omega, by go_num, Below.refl _ _⟩
  case round =>
    obtain ⟨k, hk, rfl, HW⟩ := hrel
    by_cases hlt : k < L.length
    · obtain ⟨n, hn⟩ := HGL.out k hlt
      obtain ⟨g, off, hci⟩ := RD.out (ne_of_get hlt)
      obtain rfl := hci.a
      have hcell := (hci.below HW.out hci.lt).c k n hn
      have HE : Hid (∀ w, Calls Tryd.prog 6 #[.int .i64 n] w fun e w' => e = .returned (enV n) ∧ w' = w) := fun w => encode_any n w
      have z0 : (0 : Int) ≤ (k : Int) := by omega
      have z1 : (k : Int) < (L.length : Int) := by omega
      clear hci hn HGL
      go_wp2_with fail
      refine (HE.out _).mono ?_
      rintro e w4 ⟨rfl, rfl⟩
      clear HE hcell
      by_cases hcp : cp n
      · rw [enV_t hcp]
        have HCn := (show Hid _ from HC.out n hcp)
        have HB := (show Hid _ from byl_enc hcp)
        have hsz : (Utf8.encode n).size ≤ 4 := by rw [enc_size hcp]; have := szI_bd n; omega
        generalize Utf8.encode n = s at *
        go_wp2_with fail
        obtain ⟨wL, rfl⟩ : ∃ W, W = w4 := ⟨w4, rfl⟩
        go_loopw [13, 80] (fun m t wr => ∃ j : Nat, j ≤ ss.length ∧ m = .int .i64 (((ss.take j).countP (inL (enL n)) : Nat) : Int) ∧ t = .int .i64 j ∧ Hid (Below w3.heap.size w3 wr)) (fun _ t _ => ss.length - (intOf t).toNat)
        case atStart => exact ⟨0, by omega, by simp, by go_num, HW⟩
        case round =>
          obtain ⟨j, hj, rfl, rfl, HW2⟩ := hrel
          by_cases hjl : j < ss.length
          · obtain ⟨sh, hsh, hmem⟩ := HGS.out j hjl
            obtain ⟨g1, cap1, gx, cx1, hA, hl1, _, hc1, hx1, hp1⟩ := (R3.out.below HW2.out).get hsh
            cases hA
            have h4 := (HO.out sh hmem).2.2
            have HWi : Hid (Calls Tryd.prog 7 #[.string s, .slice (some ⟨gx, 0, none⟩) sh.length cx1] wr fun e w' => e = .returned (.bool (inL (enL n) sh)) ∧ Below wr.heap.size wr w') := (show Hid _ from (by
              have e := within_any s sh gx cx1 (by omega) (by omega) wr hx1 hp1
              rw [HB.out] at e
              exact e))
            have HT := (show Hid _ from cnt_take (enL n) hsh)
            have hcl : (ss.take j).countP (inL (enL n)) ≤ ss.length := Nat.le_trans List.countP_le_length (by rw [List.length_take]; omega)
            have y0 : (0 : Int) ≤ (j : Int) := by omega
            have y1 : (j : Int) < (ss.length : Int) := by omega
            clear hsh hmem hp1 h4
            generalize (ss.take j).countP (inL (enL n)) = m at *
            go_wp2_with fail
            refine HWi.out.mono ?_
            rintro e w5 ⟨rfl, hb5⟩
            have HW3 := (show Hid (Below w3.heap.size w3 w5) from HW2.out.trans (hb5.mono HW2.out.size))
            clear hb5 HW2 HWi hc1
            generalize inL (enL n) sh = R at *
            cases R with
            | true =>
              have HT2 := (show Hid ((ss.take (j + 1)).countP (inL (enL n)) = m + 1) from (by show _ = _; rw [HT.out, if_pos rfl]))
              go_wp2
              go_roundw
              case rel => exact ⟨j + 1, by omega, by rw [HT2.out]; go_num, by go_num, HW3⟩
              case measure => simp [intOf]; omega
            | false =>
              have HT2 := (show Hid ((ss.take (j + 1)).countP (inL (enL n)) = m) from (by show _ = _; rw [HT.out, if_neg (by decide)]; rfl))
              go_wp2
              go_roundw
              case rel => exact ⟨j + 1, by omega, by rw [HT2.out], by go_num, HW3⟩
              case measure => simp [intOf]; omega
          · obtain rfl : j = ss.length := by omega
            rw [List.take_length]
            have hcn := HCn.out
            generalize ss.countP (inL (enL n)) = m at *
            by_cases hrange : lo ≤ n ∧ n ≤ hi
            · rw [if_pos hrange] at hcn
              subst hcn
              have d1 : decide (lo ≤ n) = true := decide_eq_true hrange.1
              have d2 : decide (n ≤ hi) = true := decide_eq_true hrange.2
              clear HCn HC HGS HB hrange
              go_wp2
              go_roundw
              case rel => exact ⟨k + 1, by omega, by go_num, HW2⟩
              case measure => simp [intOf]; omega
            · rw [if_neg hrange] at hcn
              subst hcn
              by_cases h1 : lo ≤ n
              · have d1 : decide (lo ≤ n) = true := decide_eq_true h1
                have d2 : decide (n ≤ hi) = false := decide_eq_false (by omega)
                clear HCn HC HGS HB hrange h1
                go_wp2
                go_roundw
                case rel => exact ⟨k + 1, by omega, by go_num, HW2⟩
                case measure => simp [intOf]; omega
              · have d1 : decide (lo ≤ n) = false := decide_eq_false h1
                clear HCn HC HGS HB hrange h1
                go_wp2
                go_roundw
                case rel => exact ⟨k + 1, by omega, by go_num, HW2⟩
                case measure => simp [intOf]; omega
      · rw [enV_f hcp]
        go_wp2_with fail
        obtain ⟨wL, rfl⟩ : ∃ W, W = w4 := ⟨w4, rfl⟩
        go_loopw [13, 80] (fun m t wr => ∃ j : Nat, j ≤ ss.length ∧ m = .int .i64 0 ∧ t = .int .i64 j ∧ Hid (Below w3.heap.size w3 wr)) (fun _ t _ => ss.length - (intOf t).toNat)
        case atStart => exact ⟨0, by omega, rfl, by go_num, HW⟩
        case round =>
          obtain ⟨j, hj, rfl, rfl, HW2⟩ := hrel
          by_cases hjl : j < ss.length
          · obtain ⟨sh, hsh, hmem⟩ := HGS.out j hjl
            obtain ⟨g1, cap1, gx, cx1, hA, hl1, _, hc1, hx1, _⟩ := (R3.out.below HW2.out).get hsh
            cases hA
            have y0 : (0 : Int) ≤ (j : Int) := by omega
            have y1 : (j : Int) < (ss.length : Int) := by omega
            clear hsh hmem
            go_wp2
            go_roundw
            case rel => exact ⟨j + 1, by omega, rfl, by go_num, HW2⟩
            case measure => simp [intOf]; omega
          · obtain rfl : j = ss.length := by omega
            clear HC HGS
            go_wp2
            go_roundw
            case rel => exact ⟨k + 1, by omega, by go_num, HW2⟩
            case measure => simp [intOf]; omega
    · obtain rfl : k = L.length := by omega
      clear HC HGL RD
      obtain ⟨wL, rfl⟩ : ∃ W, W = wr := ⟨wr, rfl⟩
      go_wp2_with fail
      go_loopw [116] (fun t wr => ∃ i : Nat, i ≤ ss.length ∧ t = .int .i64 i ∧ Hid (Below w3.heap.size w3 wr)) (fun t _ => ss.length - (intOf t).toNat)
      case atStart => exact ⟨0, by omega, by go_num, HW⟩
      case round =>
        obtain ⟨i, hi0, rfl, HW1⟩ := hrel
        clear HW
        by_cases hil : i < ss.length
        · obtain ⟨sh, hsh, hmem⟩ := HGS.out i hil
          obtain ⟨g1, cap1, gx, cx1, hA, hl1, _, hc1, hx1, hp1⟩ := (R3.out.below HW1.out).get hsh
          cases hA
          have ho := HO.out sh hmem
          have HOr := (show Hid (ordS sh) from ho.1)
          have h1 := ho.2.1
          have h4 := ho.2.2
          have HB2 := (show Hid _ from HBk.out sh hmem)
          have HP1 := (show Hid _ from hp1)
          have y0 : (0 : Int) ≤ (i : Int) := by omega
          have y1 : (i : Int) < (ss.length : Int) := by omega
          have d1 : decide ((sh.length : Int) < 1) = false := decide_eq_false (by omega)
          have d2 : decide ((4 : Int) < (sh.length : Int)) = false := decide_eq_false (by omega)
          clear hsh hmem ho hp1 HO HBk HGS
          obtain ⟨wM, rfl⟩ : ∃ W, W = wr := ⟨wr, rfl⟩
          have hszM := HW1.out.size
          go_wp2_with fail
          go_loopw [18, 131] (fun vb t wr => ∃ (k : Nat) (T : List Int), k ≤ sh.length ∧ Hid (T.length = k) ∧ t = .int .i64 k ∧ Hid (inL T (sh.take k) = true) ∧ Hid (wr.ownsRow wM.heap.size 5 1 vb T.length (u8c T)) ∧ Hid (Below wM.heap.size wM wr)) (fun _ t _ => sh.length - (intOf t).toNat)
          case atStart => exact ⟨0, [], by omega, rfl, by go_num, by rw [List.take_zero]; exact inL_nil, World.ownsRow_nil _ _ _ _, Below.refl _ _⟩
          case round =>
            obtain ⟨k, T, hk, hTl, rfl, HT, HO4, HW4⟩ := hrel
            by_cases hkl : k < sh.length
            · obtain ⟨⟨p, q⟩, hpq⟩ : ∃ pq, sh[k]? = some pq := ⟨_, List.getElem?_eq_getElem hkl⟩
              obtain ⟨e1, e2⟩ := (spl_below HP1.out HW4.out hx1) k _ hpq
              have hor := HOr.out (p, q) (List.mem_of_getElem? hpq)
              dsimp only at e1 e2 hor
              rw [Nat.zero_add] at e1 e2
              obtain ⟨o1, o2, o3⟩ := hor
              have HTk := (show Hid (∀ b, p ≤ b → b ≤ q → inL (T ++ [b]) (sh.take (k + 1)) = true) from fun b hb1 hb2 => by
                rw [List.take_add_one, hpq]
                exact inL_snoc T (sh.take k) b (p, q) HT.out hb1 hb2)
              have x0 : (0 : Int) ≤ (k : Int) := by omega
              have x1 : (k : Int) < (sh.length : Int) := by omega
              have f1 : decide (q < p) = false := decide_eq_false (by omega)
              have f2 : decide (p < 0) = false := decide_eq_false (by omega)
              have f3 : decide ((255 : Int) < q) = false := decide_eq_false (by omega)
              clear hpq HB2 HT
              have hT4 : T.length ≤ 4 := by have := hTl.out; omega
              have c0 : (wr.alloc (.cells #[.int .i64 p, .int .i64 q] 34)).cell? ⟨wr.heap.size, 0, none⟩ = some (.int .i64 p) := by simp
              have c1 : (wr.alloc (.cells #[.int .i64 p, .int .i64 q] 34)).cell? ⟨wr.heap.size, 1, none⟩ = some (.int .i64 q) := by simp
              have B4a := (show Hid (Below wM.heap.size wM (wr.alloc (.cells #[.int .i64 p, .int .i64 q] 34))) from HW4.out.alloc HW4.out.size _)
              have O4a := (show Hid ((wr.alloc (.cells #[.int .i64 p, .int .i64 q] 34)).ownsRow wM.heap.size 5 1 u18 T.length (u8c T)) from World.ownsRow.alloc HO4.out _)
              have HKp := (show Hid (∀ (ob : Obj) (w5 : World), (((wr.alloc (.cells #[.int .i64 p, .int .i64 q] 34)).alloc ob).drew).grownBy w5 u18.ownBlock → w5.cell? ⟨wr.heap.size, 0, none⟩ = some (.int .i64 p) ∧ w5.cell? ⟨wr.heap.size, 1, none⟩ = some (.int .i64 q)) from fun ob w5 hgr => by
                have hb : w5.heap[wr.heap.size]? = (((wr.alloc (.cells #[.int .i64 p, .int .i64 q] 34)).alloc ob).drew).heap[wr.heap.size]? := hgr.block wr.heap.size (by simp; omega) (fun e => by have := (World.ownsRow.lt HO4.out _ e.symm).2; omega)
                have k0 : w5.cell? ⟨wr.heap.size, 0, none⟩ = (((wr.alloc (.cells #[.int .i64 p, .int .i64 q] 34)).alloc ob).drew).cell? ⟨wr.heap.size, 0, none⟩ := World.cell?_of_block hb
                have k1 : w5.cell? ⟨wr.heap.size, 1, none⟩ = (((wr.alloc (.cells #[.int .i64 p, .int .i64 q] 34)).alloc ob).drew).cell? ⟨wr.heap.size, 1, none⟩ := World.cell?_of_block hb
                have b2 := ((Below.refl (wr.alloc (.cells #[.int .i64 p, .int .i64 q] 34)).heap.size (wr.alloc (.cells #[.int .i64 p, .int .i64 q] 34))).alloc (Nat.le_refl _) ob).drew
                exact ⟨k0.trans ((b2.cell (p := ⟨wr.heap.size, 0, none⟩) (by simp)).trans c0), k1.trans ((b2.cell (p := ⟨wr.heap.size, 1, none⟩) (by simp)).trans c1)⟩)
              have w1' : IntKind.i64.wrap (q - p) = q - p := by rw [IntKind.wrap_i64]; omega
              have w2' : IntKind.i64.wrap (q - p + 1) = q - p + 1 := by rw [IntKind.wrap_i64]; omega
              have w3' : IntKind.u64.wrap (q - p + 1) = q - p + 1 := by rw [IntKind.wrap_u64]; omega
              have w4' : (q - p + 1 == 0) = false := by simp; omega
              have w6' : ¬ (q - p + 1 = 0) := by omega
              have HBM := (show Hid (Below w3.heap.size w3 (wr.alloc (.cells #[.int .i64 p, .int .i64 q] 34))) from HW1.out.trans ((HW4.out.alloc HW4.out.size _).mono hszM))
              clear HW4 HO4
              by_cases hl0 : l.length = 0
              · have dl : decide ((0 : Int) < (l.length : Int)) = false := decide_eq_false (by omega)
                have dl2 : decide (0 < l.length) = false := decide_eq_false (by omega)
                have dl3 : ¬ 0 < l.length := by omega
                clear hl0
                go_wp2_with fail
                generalize hwa : wr.alloc (.cells #[.int .i64 p, .int .i64 q] 34) = wa at *
                clear hwa
                generalize wr.heap.size = N at *
                have hO : wa.ownsRow wM.heap.size 5 1 u18 T.length (u8c T) := O4a.out
                have hwM := B4a.out.size
                clear e1 e2
                have HBv := (show Hid _ from bv_in p q (0) o1 o2 o3)
                go_region_held3 (fun W => W.cell? ⟨N, 0, none⟩ = some (.int .i64 p) ∧ W.cell? ⟨N, 1, none⟩ = some (.int .i64 q)) (first | go_keep | exact HKp.out _ _ hgrow) ((refine step_append_lies _ (by rfl) _ _ _ (by rfl) wM.heap.size 5 i5 _ 1 1 Tryd.underlying32 hinf5 hy0 hy1 hy2 rfl (by omega) _ _ (u8c T) (by rfl) ((hO.alloc _).drew) ⟨wa.heap.size, 0, none⟩ 1 1 [.int .u8 (IntKind.u8.wrap (IntKind.i64.wrap (p + IntKind.i64.wrap ((IntKind.u64.wrap 0).tmod (q - p + 1)))))] (by rfl) (by rfl) (World.news_of_block (cs := #[.int .u8 (IntKind.u8.wrap (IntKind.i64.wrap (p + IntKind.i64.wrap ((IntKind.u64.wrap 0).tmod (q - p + 1)))))]) (t := 5) (fr := (0, 0)) (heap_alloc_new wa _)) (by simp [Value.oneCell']) (by omega) (by unfold maxLen; omega) (by omega) (by simp; omega) (wa.heap.size + 1) (by simp) ?_; intro g cap w5 hown1 hgrow hat hltg))
                all_goals
                  have hle := fun j e => (hO.lt j e).1
                  have HW5 := (show Hid (Below wM.heap.size wM w5) from ((B4a.out.alloc hwM _).drew).grown hgrow (by simp; omega) (fun j e => hle j e))
                  generalize IntKind.u8.wrap (IntKind.i64.wrap (p + IntKind.i64.wrap ((IntKind.u64.wrap 0).tmod (q - p + 1)))) = bv at *
                  have HT5 := (show Hid (inL (T ++ [bv]) (sh.take (k + 1)) = true) from HTk.out bv HBv.out.1 HBv.out.2)
                  have HO5 := (show Hid (w5.ownsRow wM.heap.size 5 1 (.slice (some ⟨g, 0, none⟩) (T.length + 1) cap) (T ++ [bv]).length (u8c (T ++ [bv]))) from (by
                    rw [List.length_append, u8c_append]
                    exact hown1))
                  have HL5 := (show Hid ((T ++ [bv]).length = k + 1) from (by show _ = _; rw [List.length_append, hTl.out]; rfl))
                  clear hown1 hgrow hat hltg hO hle HKp HBv O4a B4a c0 c1
                  go_wp2
                  go_roundw
                  case rel => exact ⟨k + 1, T ++ [bv], by omega, HL5, by go_num, HT5, HO5, HW5⟩
                  case measure => simp [intOf]; omega
              · have hl7 : 0 < l.length := by omega
                obtain ⟨gp, offp, hci⟩ := InI.rd HI3.out (ne_of_get hl7)
                obtain rfl := hci.a
                have hix : (i + k) % l.length < l.length := Nat.mod_lt _ hl7
                have hpc := (hci.below HBM.out hci.lt).c _ _ (List.getElem?_eq_getElem hix)
                have hm : ((i : Int) + (k : Int)).tmod (l.length : Int) = (((i + k) % l.length : Nat) : Int) := by rw [Int.tmod_eq_emod_of_nonneg (by omega)]; simp
                have hm1 : IntKind.i64.wrap ((i : Int) + (k : Int)) = (i : Int) + (k : Int) := by rw [IntKind.wrap_i64]; omega
                generalize l[(i + k) % l.length] = x at hpc
                generalize (i + k) % l.length = d at hpc hm hix
                have hm2 : IntKind.i64.wrap (d : Int) = (d : Int) := by rw [IntKind.wrap_i64]; omega
                have v0 : (0 : Int) ≤ (d : Int) := by omega
                have v1 : (d : Int) < (l.length : Int) := by omega
                have v2 : ((l.length : Int) == 0) = false := by rw [beq_eq_false_iff_ne]; omega
                have v3 : ¬ ((l.length : Int) = 0) := by omega
                have dl : decide ((0 : Int) < (l.length : Int)) = true := decide_eq_true (by omega)
                have dl2 : decide (0 < l.length) = true := decide_eq_true (by omega)
                clear hci HBM
                go_wp2_with fail
                generalize hwa : wr.alloc (.cells #[.int .i64 p, .int .i64 q] 34) = wa at *
                clear hwa hpc v2 v3 v0 v1 hm hm1 hm2 dl dl2
                generalize wr.heap.size = N at *
                have hO : wa.ownsRow wM.heap.size 5 1 u18 T.length (u8c T) := O4a.out
                have hwM := B4a.out.size
                clear e1 e2
                have HBv := (show Hid _ from bv_in p q (x) o1 o2 o3)
                go_region_held3 (fun W => W.cell? ⟨N, 0, none⟩ = some (.int .i64 p) ∧ W.cell? ⟨N, 1, none⟩ = some (.int .i64 q)) (first | go_keep | exact HKp.out _ _ hgrow) ((refine step_append_lies _ (by rfl) _ _ _ (by rfl) wM.heap.size 5 i5 _ 1 1 Tryd.underlying32 hinf5 hy0 hy1 hy2 rfl (by omega) _ _ (u8c T) (by rfl) ((hO.alloc _).drew) ⟨wa.heap.size, 0, none⟩ 1 1 [.int .u8 (IntKind.u8.wrap (IntKind.i64.wrap (p + IntKind.i64.wrap ((IntKind.u64.wrap x).tmod (q - p + 1)))))] (by rfl) (by rfl) (World.news_of_block (cs := #[.int .u8 (IntKind.u8.wrap (IntKind.i64.wrap (p + IntKind.i64.wrap ((IntKind.u64.wrap x).tmod (q - p + 1)))))]) (t := 5) (fr := (0, 0)) (heap_alloc_new wa _)) (by simp [Value.oneCell']) (by omega) (by unfold maxLen; omega) (by omega) (by simp; omega) (wa.heap.size + 1) (by simp) ?_; intro g cap w5 hown1 hgrow hat hltg))
                all_goals
                  have hle := fun j e => (hO.lt j e).1
                  have HW5 := (show Hid (Below wM.heap.size wM w5) from ((B4a.out.alloc hwM _).drew).grown hgrow (by simp; omega) (fun j e => hle j e))
                  generalize IntKind.u8.wrap (IntKind.i64.wrap (p + IntKind.i64.wrap ((IntKind.u64.wrap x).tmod (q - p + 1)))) = bv at *
                  have HT5 := (show Hid (inL (T ++ [bv]) (sh.take (k + 1)) = true) from HTk.out bv HBv.out.1 HBv.out.2)
                  have HO5 := (show Hid (w5.ownsRow wM.heap.size 5 1 (.slice (some ⟨g, 0, none⟩) (T.length + 1) cap) (T ++ [bv]).length (u8c (T ++ [bv]))) from (by
                    rw [List.length_append, u8c_append]
                    exact hown1))
                  have HL5 := (show Hid ((T ++ [bv]).length = k + 1) from (by show _ = _; rw [List.length_append, hTl.out]; rfl))
                  clear hown1 hgrow hat hltg hO hle HKp HBv O4a B4a c0 c1
                  go_wp2
                  go_roundw
                  case rel => exact ⟨k + 1, T ++ [bv], by omega, HL5, by go_num, HT5, HO5, HW5⟩
                  case measure => simp [intOf]; omega
            · obtain rfl : k = sh.length := by omega
              rw [List.take_length] at HT
              obtain ⟨r, hr0, hr1, hr2, rfl⟩ := HB2.out T HT.out
              have htx := text_own HO4.out
              have HD : Hid (Calls Tryd.prog 8 #[.string (asText (enL r)), .int .i64 0] wr fun e w' => e = .returned (.tuple #[.int .i64 r, .int .i64 ((enL r).length : Int), .bool true]) ∧ Below wr.heap.size wr w') := (show Hid _ from (by
                have e := decode_any (asText (enL r)) 0 wr
                have e2 : dcI (asText (enL r)) 0 = some (r, (enL r).length) := by rw [enL_len hr0]; exact dcd_enL hr0
                rw [e2] at e
                exact e))
              obtain ⟨Ab, cb, hvb⟩ : ∃ Ab cb, u18 = Value.slice Ab (enL r).length cb := by
                rcases HO4.out.2 with ⟨rfl, h0⟩ | ⟨g, cap, cur, rfl, _⟩
                · exact ⟨none, 0, by rw [h0]⟩
                · exact ⟨_, _, rfl⟩
              subst hvb
              have e1 : decide (r < lo) = false := decide_eq_false (by omega)
              have e2 : decide (hi < r) = false := decide_eq_false (by omega)
              generalize asText (enL r) = s at *
              generalize (enL r).length = m at *
              go_wp2_with fail
              refine HD.out.mono ?_
              rintro e w6 ⟨rfl, hb6⟩
              have HW6 := (show Hid (Below w3.heap.size w3 w6) from HW1.out.trans ((HW4.out.trans (hb6.mono HW4.out.size)).mono hszM))
              clear hb6 HW4 HD htx HO4 HT HB2
              go_wp2
              go_roundw
              case rel => exact ⟨i + 1, by omega, by go_num, HW6⟩
              case measure => simp [intOf]; omega
        · obtain rfl : i = ss.length := by omega
          have B9 := (show Hid (Below w.heap.size w wr) from B03.out.trans (HW1.out.mono B03.out.size))
          clear HGS HO HBk HW1
          go_wp2
          go_ret
          exact ⟨rfl, B9.out⟩

/-- The law of just these, at any two numbers and any list. -/
theorem just_any (lo hi : Int) (A : Option Addr) (c : Nat) (l : List Int) (hl : l.length * 8 ≤ 140737488351232) (w : World) (hin : InI w A c l) (hv : VB w) :
    Calls Tryd.prog 3 #[.int .i64 lo, .int .i64 hi, .slice A l.length c] w fun e w' => e = .returned (.bool true) ∧ Below w.heap.size w w' := by
  by_cases hb : 0 ≤ lo ∧ lo ≤ hi ∧ hi ≤ 1114111
  · exact just_ok lo hi A c l hl w hin hv hb
  · exact just_bad lo hi _ w hv hb
end Go.Proofs.YtiillgahnbimjabDoor
