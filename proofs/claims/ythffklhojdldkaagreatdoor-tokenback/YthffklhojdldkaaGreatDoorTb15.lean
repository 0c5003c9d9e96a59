/- The law TokenBack of layer 5 holds at every list of tokens and every text: right tokens are read again from their text, and what is read is right and is read again; the program's table of signs and the library's tables of bits and of powers of ten lie as their texts lay them. -/
import Derived.Test.YthffklhojdldkaaGreatDoorTb14
namespace Go.Proofs.YthffklhojdldkaaGreatDoor
open Go.RowKit
theorem TX.keepT {W W' : World} {b c : Nat} {t : Tk} (h : TX W c t) (hk : KeepT b W W') (hc : c ≠ b) : TX W' c t := h.same (hk.block c h.lt hc (fun a f => by rw [h.heap]; intro e; cases e))
/-- While the text is put together. -/
structure PjT (w wr : World) (q : Nat) (l : List UInt8) : Prop where
  k : Lib.IsBuilder 50 5 q q (Lib.byteCells l) wr
  b : Below w.heap.size w wr
  lo : w.heap.size ≤ q
  lt : q < wr.heap.size
theorem PjT.below {w wr w' : World} {b : Nat} {l : List UInt8} (h : PjT w wr b l) (hb : Below wr.heap.size wr w') : PjT w w' b l := ⟨bld_below h.k hb, h.b.trans (hb.mono h.b.size), h.lo, Nat.lt_of_lt_of_le h.lt hb.size⟩
theorem PjT.more {w wr w' : World} {b : Nat} {l m : List UInt8} {bs : List Value} (h : PjT w wr b l) (hk : Lib.IsBuilder 50 5 b b (Lib.byteCells l ++ bs) w') (hm : bs = Lib.byteCells m) (hb : Below b wr w') : PjT w w' b (l ++ m) := ⟨by rw [bcells, ← hm]; exact hk, h.b.trans (hb.mono h.lo), h.lo, Nat.lt_of_lt_of_le h.lt hb.size⟩
set_option maxRecDepth 100000 in
set_option maxHeartbeats 16000000 in
theorem textP_any (A : Option Addr) (c : Nat) (L : List Tk) (w : World) (hg : GW w) (hr : RdO w A L) (hl : L.length ≤ 140737488355328) (hb : ∀ t ∈ L, TkB t) : Calls Tryz.prog 8 #[.slice A L.length c] w fun e w' => e = .returned (.tuple #[.string (txR L).1, .int .i64 (txR L).2]) ∧ Below w.heap.size w w' := by
  have HK : Hid (Calls Tryz.prog 6 #[.slice A L.length c] w fun e w' => e = .returned (.tuple #[.int .i64 ((ckR L).1 : Int), .int .i64 (ckR L).2]) ∧ Below w.heap.size w w') := checkP_any A c L w hr hl hb
  by_cases hc : (ckR L).2 = 0
  · obtain ⟨hl2, hall⟩ := ckR_all hc
    have HC0 := (show Hid _ from hc)
    have HR := (show Hid _ from hr)
    have HGG := (show Hid _ from hg)
    have HG := (show Hid (∀ k, k < L.length → ∃ t, L[k]? = some t ∧ riF t = true ∧ TkB t ∧ L ≠ []) from fun k hk => ⟨L[k], List.getElem?_eq_getElem hk, hall _ (List.getElem_mem hk), hb _ (List.getElem_mem hk), by rintro rfl; simp at hk⟩)
    rw [hc] at HK
    clear hc hr hg hb hl hall
    generalize (ckR L).1 = ci at HK
    go_enter Tryz.func8, Tryz.ntmps8
    go_wp2_with fail
    refine (show Calls _ _ _ _ _ from HK).mono ?_
    rintro e w1 ⟨rfl, hb1⟩
    have H0 := (show Hid (PjT w (w1.alloc (.cells #[.pointer none, .slice none 0 0] 50)) w1.heap.size (jT L 0)) from ⟨Lib.fresh_isBuilder 50 5 w1, hb1.alloc hb1.size _, hb1.size, by simp⟩)
    clear hb1 HK
    generalize hB : w1.heap.size = B at H0
    go_wp2_with fail
    clear hB
    go_loopw [19] (fun t wr => ∃ k : Nat, k ≤ L.length ∧ t = .int .i64 k ∧ Hid (PjT w wr B (jT L k)) ∧ (jT L k).length ≤ 65536) (fun t _ => L.length - (intOf t).toNat)
    case atStart => exact ⟨0, by omega, by go_num, H0, by show 0 ≤ _; omega⟩
    case round =>
      obtain ⟨k, hk, rfl, HP, hq⟩ := hrel
      clear H0
      by_cases hlt : k < L.length
      · obtain ⟨t, ht, hri, hb, hne⟩ := HG.out k hlt
        obtain ⟨g, o, rfl, lt, n1⟩ := HR.out.rd hne
        have key : ∀ j, wr.cell? ⟨g, j, none⟩ = w.cell? ⟨g, j, none⟩ := fun j => HP.out.b.cell (p := ⟨g, j, none⟩) lt
        obtain ⟨a0, a1, a2, a3, a4, a5, a6, a7, a8⟩ := n1 k _ ht
        rw [← key] at a0 a1 a2 a3 a4 a5 a6 a7 a8
        have hg1 : g < wr.heap.size := Nat.lt_of_lt_of_le lt HP.out.b.size
        have z0 : (0 : Int) ≤ (k : Int) := by omega
        have z1 : (k : Int) < (L.length : Int) := by omega
        have HJ := (show Hid _ from jT_some ht)
        have hxl := tkX_len hri hb
        have HY := (show Hid (∀ W, Below w.heap.size w W → Calls Tryz.prog 18 #[tkG t] W fun e w' => e = .returned (.string (tkX t)) ∧ Below W.heap.size W w') from fun W hW => showP_any t hri hb W (HGG.out.later hW))
        obtain ⟨kd, nn, fr, en, tx, s0, s1, s2, s3⟩ := t
        dsimp only [tkG] at a0 a1 a2 a3 a4 a5 a6 a7 a8 HY
        have HT := (show Hid (TX (wr.alloc (tkO ⟨kd, nn, fr, en, tx, s0, s1, s2, s3⟩)) wr.heap.size ⟨kd, nn, fr, en, tx, s0, s1, s2, s3⟩) from TX.new wr _)
        have HP0 := (show Hid _ from HP.out.below (below_box wr (tkO ⟨kd, nn, fr, en, tx, s0, s1, s2, s3⟩)))
        have hBlt := HP.out.lt
        clear ht hri hb hne n1 key HG HR HGG
        generalize tkX ⟨kd, nn, fr, en, tx, s0, s1, s2, s3⟩ = X at *
        by_cases hk0 : k = 0
        · have t0 : ¬ (0 : Int) < (k : Int) := by omega
          rw [if_pos hk0, List.append_nil] at HJ
          have HP1 := HP0
          clear hk0 HP HT HP0
          go_wp2_with fail
          refine (HY.out _ HP1.out.b).mono ?_
          rintro e w4 ⟨rfl, hb4⟩
          have HP4 := (show Hid (PjT w w4 B (jT L k)) from HP1.out.below hb4)
          clear hb4 HP1 HY
          go_wp2_with fail
          refine (writeString_any B _ X _ HP4.out.k ?_).mono ?_
          · rw [Lib.byteCells_length]; omega
          rintro e w5 ⟨rfl, hk5, hb5, _⟩
          have HP5 := (show Hid (PjT w w5 B (jT L (k + 1))) from by
            have h := HP4.out.more hk5 (scells X) hb5
            rw [HJ.out]
            exact h)
          clear hk5 hb5 HP4
          go_wp2_with fail
          refine (Tryz.Builder_Len B B _ _ HP5.out.k).mono ?_
          rintro e w6 ⟨rfl, rfl⟩
          rw [Lib.byteCells_length]
          by_cases hbig : 65536 < (jT L (k + 1)).length
          · have v6 : (65536 : Int) < ((jT L (k + 1)).length : Int) := by omega
            have HF := (show Hid (txR L = (⟨#[]⟩, 2)) from txR_long HC0.out (by omega) hbig)
            have HB := (show Hid _ from HP5.out.b)
            clear hbig HP5
            go_wp2_with fail
            go_ret2
            exact ⟨ret_te HF.out, HB.out⟩
          · have v6 : ¬ (65536 : Int) < ((jT L (k + 1)).length : Int) := by omega
            have hq6 : (jT L (k + 1)).length ≤ 65536 := by omega
            clear hbig
            go_wp2_with fail
            go_roundw
            case rel => exact ⟨k + 1, by omega, by go_num, HP5, hq6⟩
            case measure => simp [intOf]; omega
        · have t0 : (0 : Int) < (k : Int) := by omega
          rw [if_neg hk0] at HJ
          clear hk0
          go_wp2_with fail
          refine (writeByte_any B _ 32 _ HP0.out.k (by rw [Lib.byteCells_length]; omega)).mono ?_
          rintro e w2 ⟨rfl, hk2, hb2, hkt⟩
          have HP1 := (show Hid (PjT w w2 B (jT L k ++ [32])) from HP0.out.more hk2 rfl hb2)
          have HT2 := (show Hid _ from HT.out.keepT hkt (by omega))
          obtain ⟨c0, c1, c2, c3, c4, c5, c6, c7, c8⟩ := HT2.out.cells
          dsimp only at c0 c1 c2 c3 c4 c5 c6 c7 c8
          have hq32 : (jT L k ++ [32]).length ≤ 65537 := by rw [List.length_append]; show _ + 1 ≤ _; omega
          clear hk2 hb2 hkt HP HT HP0 a0 a1 a2 a3 a4 a5 a6 a7 a8 HT2
          go_wp2_with fail
          refine (HY.out _ HP1.out.b).mono ?_
          rintro e w4 ⟨rfl, hb4⟩
          have HP4 := (show Hid (PjT w w4 B (jT L k ++ [32])) from HP1.out.below hb4)
          clear hb4 HP1 HY
          go_wp2_with fail
          refine (writeString_any B _ X _ HP4.out.k ?_).mono ?_
          · rw [Lib.byteCells_length]; omega
          rintro e w5 ⟨rfl, hk5, hb5, _⟩
          have HP5 := (show Hid (PjT w w5 B (jT L (k + 1))) from by
            have h := HP4.out.more hk5 (scells X) hb5
            rw [HJ.out]
            exact h)
          clear hk5 hb5 HP4
          go_wp2_with fail
          refine (Tryz.Builder_Len B B _ _ HP5.out.k).mono ?_
          rintro e w6 ⟨rfl, rfl⟩
          rw [Lib.byteCells_length]
          by_cases hbig : 65536 < (jT L (k + 1)).length
          · have v6 : (65536 : Int) < ((jT L (k + 1)).length : Int) := by omega
            have HF := (show Hid (txR L = (⟨#[]⟩, 2)) from txR_long HC0.out (by omega) hbig)
            have HB := (show Hid _ from HP5.out.b)
            clear hbig HP5
            go_wp2_with fail
            go_ret2
            exact ⟨ret_te HF.out, HB.out⟩
          · have v6 : ¬ (65536 : Int) < ((jT L (k + 1)).length : Int) := by omega
            have hq6 : (jT L (k + 1)).length ≤ 65536 := by omega
            clear hbig
            go_wp2_with fail
            go_roundw
            case rel => exact ⟨k + 1, by omega, by go_num, HP5, hq6⟩
            case measure => simp [intOf]; omega
      · obtain rfl : k = L.length := by omega
        have HF := (show Hid (txR L = (txO (jT L L.length), 0)) from txR_ok HC0.out (by omega))
        clear HG HR HGG HC0
        go_wp2_with fail
        refine (Tryz.Builder_String_any B B (jT L L.length) _ HP.out.k (Nat.le_of_lt HP.out.lt)).mono ?_
        rintro e w6 ⟨rfl, hb6⟩
        have HB6 := (show Hid (Below w.heap.size w w6) from HP.out.b.trans (hb6.mono HP.out.lo))
        clear hb6 HP
        go_wp2_with fail
        go_ret2
        exact ⟨ret_te HF.out, HB6.out⟩
  · have HE := (show Hid _ from txR_bad hc)
    have v : ((ckR L).2 != 0) = true := by rw [bne, beq_eq_false_iff_ne.2 hc]; rfl
    clear hr hg hb hl hc
    generalize (ckR L).2 = q at *
    generalize (ckR L).1 = ci at *
    go_enter Tryz.func8, Tryz.ntmps8
    go_wp2_with fail
    refine (show Calls _ _ _ _ _ from HK).mono ?_
    rintro e w1 ⟨rfl, hb1⟩
    have HB := (show Hid _ from hb1)
    clear hb1 HK
    go_wp2_with fail
    go_ret2
    exact ⟨ret_te HE.out, HB.out⟩
end Go.Proofs.YthffklhojdldkaaGreatDoor

namespace Go.Proofs.YthffklhojdldkaaGreatDoor
open Go.RowKit
set_option maxRecDepth 100000 in
set_option maxHeartbeats 8000000 in
theorem bk_aa (A : Option Addr) (c : Nat) (L : List Tk) (s : ByteArray) (w : World) (tt0 : ByteArray) (M : List Tk) (HIn : Hid (∀ W, Below w.heap.size w W → RdO W A L)) (HT0 : Hid (∀ W, Below w.heap.size w W → Calls Tryz.prog 8 #[.slice A L.length c] W fun e w' => e = .returned (.tuple #[.string tt0, .int .i64 0]) ∧ Below W.heap.size W w')) (HY0 : Hid (∀ W, Below w.heap.size w W → Calls Tryz.prog 12 #[.string tt0] W fun e' w' => (∃ v, e' = .returned (.tuple #[v, .agg #[.int .i64 0, .int .i64 0]]) ∧ w'.ownsRow W.heap.size 45 9 v M.length (tkc M)) ∧ Below W.heap.size W w')) (HK0 : Hid (∀ A1 A2 c1 c2 W, RdO W A1 M → RdO W A2 L → Calls Tryz.prog 13 #[.slice A1 M.length c1, .slice A2 L.length c2] W fun e w' => e = .returned (.bool true) ∧ Below W.heap.size W w')) (p1 : Nat) (p2 : Int) (hp1 : p1 ≤ s.size) (hp2 : ¬ p2 = 0) (HX : Hid (∀ W, Below w.heap.size w W → Calls Tryz.prog 12 #[.string s] W fun e' w' => e' = .returned (.tuple #[.slice none 0 0, .agg #[.int .i64 p1, .int .i64 p2]]) ∧ Below W.heap.size W w')) (HW : Hid (∀ _ : Unit, Calls Tryz.prog 11 #[] w fun e w' => e = .returned (.bool true) ∧ Below w.heap.size w w')) : Calls Tryz.prog 4 #[.slice A L.length c, .string s] w fun e w' => e = .returned (.bool true) ∧ Below w.heap.size w w' := by
  have e0 := eq26 0 0 0 0
  have e3 := eq26 p1 p2 0 0
  have v2 : (p2 == 0) = false := beq_eq_false_iff_ne.2 hp2
  have v2' : (p2 != 0) = true := by rw [bne, v2]; rfl
  rw [v2, Bool.and_false] at e3
  have z0 : (0 : Int) ≤ (p1 : Int) := by omega
  have z1 : (p1 : Int) ≤ (s.size : Int) := by omega
  clear hp2
  go_enter Tryz.func4, Tryz.ntmps4
  go_wp2_with fail
  refine (HW.out ()).mono ?_
  rintro e w1 ⟨rfl, hb1⟩
  have HB1 := (show Hid _ from hb1)
  clear hb1 HW
  go_wp2_with fail
  refine (HT0.out _ HB1.out).mono ?_
  rintro e w2 ⟨rfl, hb2⟩
  have HB2 := (show Hid (Below w.heap.size w w2) from HB1.out.trans (hb2.mono HB1.out.size))
  clear hb2 HB1 HT0
  go_wp2_with fail
  refine (HY0.out _ HB2.out).mono ?_
  rintro e w3 ⟨⟨v3, rfl, ho3⟩, hb3⟩
  obtain ⟨A3, c3, rfl, hr3⟩ := own_rdt ho3 rfl
  have HB3 := (show Hid (Below w.heap.size w (w3.alloc (fxO 0 0))) from ((HB2.out.trans (hb3.mono HB2.out.size)).alloc (HB2.out.trans (hb3.mono HB2.out.size)).size _))
  have HR3 := (show Hid _ from (hr3.later (below_box w3 (fxO 0 0))).o)
  clear hb3 ho3 hr3 HB2 HY0
  go_wp2_with fail
  refine (HK0.out _ _ _ _ _ HR3.out (HIn.out _ HB3.out)).mono ?_
  rintro e w4 ⟨rfl, hb4⟩
  have HB4 := (show Hid (Below w.heap.size w w4) from HB3.out.trans (hb4.mono HB3.out.size))
  clear hb4 HB3 HR3 HK0 HIn
  go_wp2_with fail
  refine (HX.out _ HB4.out).mono ?_
  rintro e w5 ⟨rfl, hb5⟩
  have HB5 := (show Hid (Below w.heap.size w w5) from HB4.out.trans (hb5.mono HB4.out.size))
  clear hb5 HX HB4
  go_wp2_with fail
  go_ret
  exact ⟨rfl, HB5.out.alloc HB5.out.size _⟩
set_option maxRecDepth 100000 in
set_option maxHeartbeats 8000000 in
theorem bk_ac (A : Option Addr) (c : Nat) (L : List Tk) (s : ByteArray) (w : World) (tt0 : ByteArray) (M : List Tk) (HIn : Hid (∀ W, Below w.heap.size w W → RdO W A L)) (HT0 : Hid (∀ W, Below w.heap.size w W → Calls Tryz.prog 8 #[.slice A L.length c] W fun e w' => e = .returned (.tuple #[.string tt0, .int .i64 0]) ∧ Below W.heap.size W w')) (HY0 : Hid (∀ W, Below w.heap.size w W → Calls Tryz.prog 12 #[.string tt0] W fun e' w' => (∃ v, e' = .returned (.tuple #[v, .agg #[.int .i64 0, .int .i64 0]]) ∧ w'.ownsRow W.heap.size 45 9 v M.length (tkc M)) ∧ Below W.heap.size W w')) (HK0 : Hid (∀ A1 A2 c1 c2 W, RdO W A1 M → RdO W A2 L → Calls Tryz.prog 13 #[.slice A1 M.length c1, .slice A2 L.length c2] W fun e w' => e = .returned (.bool true) ∧ Below W.heap.size W w')) (X : List Tk) (HX : Hid (∀ W, Below w.heap.size w W → Calls Tryz.prog 12 #[.string s] W fun e' w' => (∃ v, e' = .returned (.tuple #[v, .agg #[.int .i64 0, .int .i64 0]]) ∧ w'.ownsRow W.heap.size 45 9 v X.length (tkc X)) ∧ Below W.heap.size W w')) (HT : Hid (∀ A c W, Below w.heap.size w W → RdO W A X → Calls Tryz.prog 8 #[.slice A X.length c] W fun e w' => e = .returned (.tuple #[.string ⟨#[]⟩, .int .i64 2]) ∧ Below W.heap.size W w')) (HW : Hid (∀ _ : Unit, Calls Tryz.prog 11 #[] w fun e w' => e = .returned (.bool true) ∧ Below w.heap.size w w')) : Calls Tryz.prog 4 #[.slice A L.length c, .string s] w fun e w' => e = .returned (.bool true) ∧ Below w.heap.size w w' := by
  have e0 := eq26 0 0 0 0
  go_enter Tryz.func4, Tryz.ntmps4
  go_wp2_with fail
  refine (HW.out ()).mono ?_
  rintro e w1 ⟨rfl, hb1⟩
  have HB1 := (show Hid _ from hb1)
  clear hb1 HW
  go_wp2_with fail
  refine (HT0.out _ HB1.out).mono ?_
  rintro e w2 ⟨rfl, hb2⟩
  have HB2 := (show Hid (Below w.heap.size w w2) from HB1.out.trans (hb2.mono HB1.out.size))
  clear hb2 HB1 HT0
  go_wp2_with fail
  refine (HY0.out _ HB2.out).mono ?_
  rintro e w3 ⟨⟨v3, rfl, ho3⟩, hb3⟩
  obtain ⟨A3, c3, rfl, hr3⟩ := own_rdt ho3 rfl
  have HB3 := (show Hid (Below w.heap.size w (w3.alloc (fxO 0 0))) from ((HB2.out.trans (hb3.mono HB2.out.size)).alloc (HB2.out.trans (hb3.mono HB2.out.size)).size _))
  have HR3 := (show Hid _ from (hr3.later (below_box w3 (fxO 0 0))).o)
  clear hb3 ho3 hr3 HB2 HY0
  go_wp2_with fail
  refine (HK0.out _ _ _ _ _ HR3.out (HIn.out _ HB3.out)).mono ?_
  rintro e w4 ⟨rfl, hb4⟩
  have HB4 := (show Hid (Below w.heap.size w w4) from HB3.out.trans (hb4.mono HB3.out.size))
  clear hb4 HB3 HR3 HK0 HIn
  go_wp2_with fail
  refine (HX.out _ HB4.out).mono ?_
  rintro e w5 ⟨⟨v, rfl, ho5⟩, hb5⟩
  obtain ⟨A5, c5, rfl, hr5⟩ := own_rdt ho5 rfl
  have HB5 := (show Hid (Below w.heap.size w (w5.alloc (fxO 0 0))) from ((HB4.out.trans (hb5.mono HB4.out.size)).alloc (HB4.out.trans (hb5.mono HB4.out.size)).size _))
  have HR5 := (show Hid _ from (hr5.later (below_box w5 (fxO 0 0))).o)
  have HF5 := (show Hid (FX (w5.alloc (fxO 0 0)) w5.heap.size 0 0) from ⟨heap_alloc_new w5 _⟩)
  clear hb5 ho5 hr5 HX HB4
  go_wp2_with fail
  refine (HT.out _ _ _ HB5.out HR5.out).mono ?_
  rintro e w6 ⟨rfl, hb6⟩
  have HB6 := (show Hid (Below w.heap.size w w6) from HB5.out.trans (hb6.mono HB5.out.size))
  clear hb6 HB5 HR5 HF5 HT
  go_wp2_with fail
  go_ret
  exact ⟨rfl, HB6.out⟩
set_option maxRecDepth 100000 in
set_option maxHeartbeats 8000000 in
theorem bk_ba (A : Option Addr) (c : Nat) (L : List Tk) (s : ByteArray) (w : World) (q : Int) (hq : ¬ q = 0) (HT0 : Hid (∀ W, Below w.heap.size w W → Calls Tryz.prog 8 #[.slice A L.length c] W fun e w' => e = .returned (.tuple #[.string ⟨#[]⟩, .int .i64 q]) ∧ Below W.heap.size W w')) (p1 : Nat) (p2 : Int) (hp1 : p1 ≤ s.size) (hp2 : ¬ p2 = 0) (HX : Hid (∀ W, Below w.heap.size w W → Calls Tryz.prog 12 #[.string s] W fun e' w' => e' = .returned (.tuple #[.slice none 0 0, .agg #[.int .i64 p1, .int .i64 p2]]) ∧ Below W.heap.size W w')) (HW : Hid (∀ _ : Unit, Calls Tryz.prog 11 #[] w fun e w' => e = .returned (.bool true) ∧ Below w.heap.size w w')) : Calls Tryz.prog 4 #[.slice A L.length c, .string s] w fun e w' => e = .returned (.bool true) ∧ Below w.heap.size w w' := by
  have e0 := eq26 0 0 0 0
  have v0 : (q == 0) = false := beq_eq_false_iff_ne.2 hq
  clear hq
  have e3 := eq26 p1 p2 0 0
  have v2 : (p2 == 0) = false := beq_eq_false_iff_ne.2 hp2
  have v2' : (p2 != 0) = true := by rw [bne, v2]; rfl
  rw [v2, Bool.and_false] at e3
  have z0 : (0 : Int) ≤ (p1 : Int) := by omega
  have z1 : (p1 : Int) ≤ (s.size : Int) := by omega
  clear hp2
  go_enter Tryz.func4, Tryz.ntmps4
  go_wp2_with fail
  refine (HW.out ()).mono ?_
  rintro e w1 ⟨rfl, hb1⟩
  have HB1 := (show Hid _ from hb1)
  clear hb1 HW
  go_wp2_with fail
  refine (HT0.out _ HB1.out).mono ?_
  rintro e w2 ⟨rfl, hb2⟩
  have HB2 := (show Hid (Below w.heap.size w w2) from HB1.out.trans (hb2.mono HB1.out.size))
  clear hb2 HB1 HT0
  go_wp2_with fail
  refine (HX.out _ HB2.out).mono ?_
  rintro e w5 ⟨rfl, hb5⟩
  have HB5 := (show Hid (Below w.heap.size w w5) from HB2.out.trans (hb5.mono HB2.out.size))
  clear hb5 HX HB2
  go_wp2_with fail
  go_ret
  exact ⟨rfl, HB5.out.alloc HB5.out.size _⟩
set_option maxRecDepth 100000 in
set_option maxHeartbeats 8000000 in
theorem bk_bc (A : Option Addr) (c : Nat) (L : List Tk) (s : ByteArray) (w : World) (q : Int) (hq : ¬ q = 0) (HT0 : Hid (∀ W, Below w.heap.size w W → Calls Tryz.prog 8 #[.slice A L.length c] W fun e w' => e = .returned (.tuple #[.string ⟨#[]⟩, .int .i64 q]) ∧ Below W.heap.size W w')) (X : List Tk) (HX : Hid (∀ W, Below w.heap.size w W → Calls Tryz.prog 12 #[.string s] W fun e' w' => (∃ v, e' = .returned (.tuple #[v, .agg #[.int .i64 0, .int .i64 0]]) ∧ w'.ownsRow W.heap.size 45 9 v X.length (tkc X)) ∧ Below W.heap.size W w')) (HT : Hid (∀ A c W, Below w.heap.size w W → RdO W A X → Calls Tryz.prog 8 #[.slice A X.length c] W fun e w' => e = .returned (.tuple #[.string ⟨#[]⟩, .int .i64 2]) ∧ Below W.heap.size W w')) (HW : Hid (∀ _ : Unit, Calls Tryz.prog 11 #[] w fun e w' => e = .returned (.bool true) ∧ Below w.heap.size w w')) : Calls Tryz.prog 4 #[.slice A L.length c, .string s] w fun e w' => e = .returned (.bool true) ∧ Below w.heap.size w w' := by
  have e0 := eq26 0 0 0 0
  have v0 : (q == 0) = false := beq_eq_false_iff_ne.2 hq
  clear hq
  go_enter Tryz.func4, Tryz.ntmps4
  go_wp2_with fail
  refine (HW.out ()).mono ?_
  rintro e w1 ⟨rfl, hb1⟩
  have HB1 := (show Hid _ from hb1)
  clear hb1 HW
  go_wp2_with fail
  refine (HT0.out _ HB1.out).mono ?_
  rintro e w2 ⟨rfl, hb2⟩
  have HB2 := (show Hid (Below w.heap.size w w2) from HB1.out.trans (hb2.mono HB1.out.size))
  clear hb2 HB1 HT0
  go_wp2_with fail
  refine (HX.out _ HB2.out).mono ?_
  rintro e w5 ⟨⟨v, rfl, ho5⟩, hb5⟩
  obtain ⟨A5, c5, rfl, hr5⟩ := own_rdt ho5 rfl
  have HB5 := (show Hid (Below w.heap.size w (w5.alloc (fxO 0 0))) from ((HB2.out.trans (hb5.mono HB2.out.size)).alloc (HB2.out.trans (hb5.mono HB2.out.size)).size _))
  have HR5 := (show Hid _ from (hr5.later (below_box w5 (fxO 0 0))).o)
  have HF5 := (show Hid (FX (w5.alloc (fxO 0 0)) w5.heap.size 0 0) from ⟨heap_alloc_new w5 _⟩)
  clear hb5 ho5 hr5 HX HB2
  go_wp2_with fail
  refine (HT.out _ _ _ HB5.out HR5.out).mono ?_
  rintro e w6 ⟨rfl, hb6⟩
  have HB6 := (show Hid (Below w.heap.size w w6) from HB5.out.trans (hb6.mono HB5.out.size))
  clear hb6 HB5 HR5 HF5 HT
  go_wp2_with fail
  go_ret
  exact ⟨rfl, HB6.out⟩
end Go.Proofs.YthffklhojdldkaaGreatDoor

namespace Go.Proofs.YthffklhojdldkaaGreatDoor
open Go.RowKit
theorem set_same {W : World} {b i : Nat} {cs : Array Value} {t : TypeId} {fr : Nat × Nat} {v : Value} (h : W.heap[b]? = some (.cells cs t fr)) (hi : cs.setIfInBounds i v = cs) : W.setCell ⟨b, i, none⟩ v = W := by
  obtain ⟨hlt, hv⟩ := Array.getElem?_eq_some_iff.1 h
  rw [setCell_eq_setRow W b i cs t fr v h, hi]
  unfold World.setRow
  suffices e : W.heap.modify b (fun | .cells _ elem frozen => .cells cs elem frozen | o => o) = W.heap from by
    show ({ W with heap := W.heap.modify b _ } : World) = W
    exact congrArg (fun h => ({ W with heap := h } : World)) e
  · apply Array.ext
    · simp
    · intro k h1 h2
      simp only [Array.getElem_modify]
      split
      · next hk => subst hk; rw [hv]
      · rfl
set_option maxRecDepth 100000 in
set_option maxHeartbeats 8000000 in
theorem bk_ab (A : Option Addr) (c : Nat) (L : List Tk) (s : ByteArray) (w : World) (tt0 : ByteArray) (M : List Tk) (HIn : Hid (∀ W, Below w.heap.size w W → RdO W A L)) (HT0 : Hid (∀ W, Below w.heap.size w W → Calls Tryz.prog 8 #[.slice A L.length c] W fun e w' => e = .returned (.tuple #[.string tt0, .int .i64 0]) ∧ Below W.heap.size W w')) (HY0 : Hid (∀ W, Below w.heap.size w W → Calls Tryz.prog 12 #[.string tt0] W fun e' w' => (∃ v, e' = .returned (.tuple #[v, .agg #[.int .i64 0, .int .i64 0]]) ∧ w'.ownsRow W.heap.size 45 9 v M.length (tkc M)) ∧ Below W.heap.size W w')) (HK0 : Hid (∀ A1 A2 c1 c2 W, RdO W A1 M → RdO W A2 L → Calls Tryz.prog 13 #[.slice A1 M.length c1, .slice A2 L.length c2] W fun e w' => e = .returned (.bool true) ∧ Below W.heap.size W w')) (X : List Tk) (HX : Hid (∀ W, Below w.heap.size w W → Calls Tryz.prog 12 #[.string s] W fun e' w' => (∃ v, e' = .returned (.tuple #[v, .agg #[.int .i64 0, .int .i64 0]]) ∧ w'.ownsRow W.heap.size 45 9 v X.length (tkc X)) ∧ Below W.heap.size W w')) (tt : ByteArray) (Y : List Tk) (HT : Hid (∀ A c W, Below w.heap.size w W → RdO W A X → Calls Tryz.prog 8 #[.slice A X.length c] W fun e w' => e = .returned (.tuple #[.string tt, .int .i64 0]) ∧ Below W.heap.size W w')) (HC : Hid (∀ A c W, RdO W A X → Calls Tryz.prog 6 #[.slice A X.length c] W fun e w' => e = .returned (.tuple #[.int .i64 0, .int .i64 0]) ∧ Below W.heap.size W w')) (HY : Hid (∀ W, Below w.heap.size w W → Calls Tryz.prog 12 #[.string tt] W fun e' w' => (∃ v, e' = .returned (.tuple #[v, .agg #[.int .i64 0, .int .i64 0]]) ∧ w'.ownsRow W.heap.size 45 9 v Y.length (tkc Y)) ∧ Below W.heap.size W w')) (HK : Hid (∀ A1 A2 c1 c2 W, RdO W A1 X → RdO W A2 Y → Calls Tryz.prog 13 #[.slice A1 X.length c1, .slice A2 Y.length c2] W fun e w' => e = .returned (.bool true) ∧ Below W.heap.size W w')) (HW : Hid (∀ _ : Unit, Calls Tryz.prog 11 #[] w fun e w' => e = .returned (.bool true) ∧ Below w.heap.size w w')) : Calls Tryz.prog 4 #[.slice A L.length c, .string s] w fun e w' => e = .returned (.bool true) ∧ Below w.heap.size w w' := by
  have e0 := eq26 0 0 0 0
  go_enter Tryz.func4, Tryz.ntmps4
  go_wp2_with fail
  refine (HW.out ()).mono ?_
  rintro e w1 ⟨rfl, hb1⟩
  have HB1 := (show Hid _ from hb1)
  clear hb1 HW
  go_wp2_with fail
  refine (HT0.out _ HB1.out).mono ?_
  rintro e w2 ⟨rfl, hb2⟩
  have HB2 := (show Hid (Below w.heap.size w w2) from HB1.out.trans (hb2.mono HB1.out.size))
  clear hb2 HB1 HT0
  go_wp2_with fail
  refine (HY0.out _ HB2.out).mono ?_
  rintro e w3 ⟨⟨v3, rfl, ho3⟩, hb3⟩
  obtain ⟨A3, c3, rfl, hr3⟩ := own_rdt ho3 rfl
  have HB3 := (show Hid (Below w.heap.size w (w3.alloc (fxO 0 0))) from ((HB2.out.trans (hb3.mono HB2.out.size)).alloc (HB2.out.trans (hb3.mono HB2.out.size)).size _))
  have HR3 := (show Hid _ from (hr3.later (below_box w3 (fxO 0 0))).o)
  clear hb3 ho3 hr3 HB2 HY0
  go_wp2_with fail
  refine (HK0.out _ _ _ _ _ HR3.out (HIn.out _ HB3.out)).mono ?_
  rintro e w4 ⟨rfl, hb4⟩
  have HB4 := (show Hid (Below w.heap.size w w4) from HB3.out.trans (hb4.mono HB3.out.size))
  clear hb4 HB3 HR3 HK0 HIn
  go_wp2_with fail
  refine (HX.out _ HB4.out).mono ?_
  rintro e w5 ⟨⟨v, rfl, ho5⟩, hb5⟩
  obtain ⟨A5, c5, rfl, hr5⟩ := own_rdt ho5 rfl
  have HB5 := (show Hid (Below w.heap.size w (w5.alloc (fxO 0 0))) from ((HB4.out.trans (hb5.mono HB4.out.size)).alloc (HB4.out.trans (hb5.mono HB4.out.size)).size _))
  have HR5 := (show Hid _ from (hr5.later (below_box w5 (fxO 0 0))).o)
  have HF5 := (show Hid (FX (w5.alloc (fxO 0 0)) w5.heap.size 0 0) from ⟨heap_alloc_new w5 _⟩)
  clear hb5 ho5 hr5 HX HB4
  go_wp2_with fail
  refine (HT.out _ _ _ HB5.out HR5.out).mono ?_
  rintro e w6 ⟨rfl, hb6⟩
  have HB6 := (show Hid (Below w.heap.size w w6) from HB5.out.trans (hb6.mono HB5.out.size))
  have HR6 := (show Hid _ from HR5.out.later hb6)
  have HF6 := (show Hid _ from HF5.out.below hb6)
  clear hb6 HB5 HR5 HF5 HT
  go_wp2_with fail
  refine (HY.out _ HB6.out).mono ?_
  rintro e w7 ⟨⟨v7, rfl, ho7⟩, hb7⟩
  obtain ⟨A7, c7, rfl, hr7⟩ := own_rdt ho7 rfl
  have HB7 := (show Hid (Below w.heap.size w w7) from HB6.out.trans (hb7.mono HB6.out.size))
  have HR7 := (show Hid _ from HR6.out.later hb7)
  have HF7 := (show Hid _ from HF6.out.below hb7)
  have HS7 := (show Hid _ from hr7.o)
  have k0 := HF7.out.c0
  have k1 := HF7.out.c1
  have g0 := HF7.out.f0
  have g1 := HF7.out.f1
  have st0 := set_same (i := 0) (v := .int .i64 0) HF7.out.heap rfl
  have st1 := set_same (i := 1) (v := .int .i64 0) HF7.out.heap rfl
  clear hb7 ho7 hr7 HB6 HR6 HF6 HY
  go_wp2_with fail
  refine (HC.out _ _ _ HR7.out).mono ?_
  rintro e w8 ⟨rfl, hb8⟩
  have HB8 := (show Hid (Below w.heap.size w w8) from HB7.out.trans (hb8.mono HB7.out.size))
  have HR8 := (show Hid _ from HR7.out.later hb8)
  have HS8 := (show Hid _ from HS7.out.later hb8)
  have HF8 := (show Hid _ from HF7.out.below hb8)
  clear k0 k1 g0 g1 st0 st1
  have k0 := HF8.out.c0
  have k1 := HF8.out.c1
  clear hb8 HB7 HR7 HS7 HF7 HC
  go_wp2_with fail
  refine (HK.out _ _ _ _ _ HR8.out HS8.out).mono ?_
  rintro e w9 ⟨rfl, hb9⟩
  have HB9 := (show Hid (Below w.heap.size w w9) from HB8.out.trans (hb9.mono HB8.out.size))
  clear hb9 HB8 HR8 HS8 HF8 HK k0 k1
  go_wp2_with fail
  go_ret
  exact ⟨rfl, HB9.out⟩
end Go.Proofs.YthffklhojdldkaaGreatDoor

namespace Go.Proofs.YthffklhojdldkaaGreatDoor
open Go.RowKit
set_option maxRecDepth 100000 in
set_option maxHeartbeats 8000000 in
theorem bk_bb (A : Option Addr) (c : Nat) (L : List Tk) (s : ByteArray) (w : World) (q : Int) (hq : ¬ q = 0) (HT0 : Hid (∀ W, Below w.heap.size w W → Calls Tryz.prog 8 #[.slice A L.length c] W fun e w' => e = .returned (.tuple #[.string ⟨#[]⟩, .int .i64 q]) ∧ Below W.heap.size W w')) (X : List Tk) (HX : Hid (∀ W, Below w.heap.size w W → Calls Tryz.prog 12 #[.string s] W fun e' w' => (∃ v, e' = .returned (.tuple #[v, .agg #[.int .i64 0, .int .i64 0]]) ∧ w'.ownsRow W.heap.size 45 9 v X.length (tkc X)) ∧ Below W.heap.size W w')) (tt : ByteArray) (Y : List Tk) (HT : Hid (∀ A c W, Below w.heap.size w W → RdO W A X → Calls Tryz.prog 8 #[.slice A X.length c] W fun e w' => e = .returned (.tuple #[.string tt, .int .i64 0]) ∧ Below W.heap.size W w')) (HC : Hid (∀ A c W, RdO W A X → Calls Tryz.prog 6 #[.slice A X.length c] W fun e w' => e = .returned (.tuple #[.int .i64 0, .int .i64 0]) ∧ Below W.heap.size W w')) (HY : Hid (∀ W, Below w.heap.size w W → Calls Tryz.prog 12 #[.string tt] W fun e' w' => (∃ v, e' = .returned (.tuple #[v, .agg #[.int .i64 0, .int .i64 0]]) ∧ w'.ownsRow W.heap.size 45 9 v Y.length (tkc Y)) ∧ Below W.heap.size W w')) (HK : Hid (∀ A1 A2 c1 c2 W, RdO W A1 X → RdO W A2 Y → Calls Tryz.prog 13 #[.slice A1 X.length c1, .slice A2 Y.length c2] W fun e w' => e = .returned (.bool true) ∧ Below W.heap.size W w')) (HW : Hid (∀ _ : Unit, Calls Tryz.prog 11 #[] w fun e w' => e = .returned (.bool true) ∧ Below w.heap.size w w')) : Calls Tryz.prog 4 #[.slice A L.length c, .string s] w fun e w' => e = .returned (.bool true) ∧ Below w.heap.size w w' := by
  have e0 := eq26 0 0 0 0
  have v0 : (q == 0) = false := beq_eq_false_iff_ne.2 hq
  clear hq
  go_enter Tryz.func4, Tryz.ntmps4
  go_wp2_with fail
  refine (HW.out ()).mono ?_
  rintro e w1 ⟨rfl, hb1⟩
  have HB1 := (show Hid _ from hb1)
  clear hb1 HW
  go_wp2_with fail
  refine (HT0.out _ HB1.out).mono ?_
  rintro e w2 ⟨rfl, hb2⟩
  have HB2 := (show Hid (Below w.heap.size w w2) from HB1.out.trans (hb2.mono HB1.out.size))
  clear hb2 HB1 HT0
  go_wp2_with fail
  refine (HX.out _ HB2.out).mono ?_
  rintro e w5 ⟨⟨v, rfl, ho5⟩, hb5⟩
  obtain ⟨A5, c5, rfl, hr5⟩ := own_rdt ho5 rfl
  have HB5 := (show Hid (Below w.heap.size w (w5.alloc (fxO 0 0))) from ((HB2.out.trans (hb5.mono HB2.out.size)).alloc (HB2.out.trans (hb5.mono HB2.out.size)).size _))
  have HR5 := (show Hid _ from (hr5.later (below_box w5 (fxO 0 0))).o)
  have HF5 := (show Hid (FX (w5.alloc (fxO 0 0)) w5.heap.size 0 0) from ⟨heap_alloc_new w5 _⟩)
  clear hb5 ho5 hr5 HX HB2
  go_wp2_with fail
  refine (HT.out _ _ _ HB5.out HR5.out).mono ?_
  rintro e w6 ⟨rfl, hb6⟩
  have HB6 := (show Hid (Below w.heap.size w w6) from HB5.out.trans (hb6.mono HB5.out.size))
  have HR6 := (show Hid _ from HR5.out.later hb6)
  have HF6 := (show Hid _ from HF5.out.below hb6)
  clear hb6 HB5 HR5 HF5 HT
  go_wp2_with fail
  refine (HY.out _ HB6.out).mono ?_
  rintro e w7 ⟨⟨v7, rfl, ho7⟩, hb7⟩
  obtain ⟨A7, c7, rfl, hr7⟩ := own_rdt ho7 rfl
  have HB7 := (show Hid (Below w.heap.size w w7) from HB6.out.trans (hb7.mono HB6.out.size))
  have HR7 := (show Hid _ from HR6.out.later hb7)
  have HF7 := (show Hid _ from HF6.out.below hb7)
  have HS7 := (show Hid _ from hr7.o)
  have k0 := HF7.out.c0
  have k1 := HF7.out.c1
  have g0 := HF7.out.f0
  have g1 := HF7.out.f1
  have st0 := set_same (i := 0) (v := .int .i64 0) HF7.out.heap rfl
  have st1 := set_same (i := 1) (v := .int .i64 0) HF7.out.heap rfl
  clear hb7 ho7 hr7 HB6 HR6 HF6 HY
  go_wp2_with fail
  refine (HC.out _ _ _ HR7.out).mono ?_
  rintro e w8 ⟨rfl, hb8⟩
  have HB8 := (show Hid (Below w.heap.size w w8) from HB7.out.trans (hb8.mono HB7.out.size))
  have HR8 := (show Hid _ from HR7.out.later hb8)
  have HS8 := (show Hid _ from HS7.out.later hb8)
  have HF8 := (show Hid _ from HF7.out.below hb8)
  clear k0 k1 g0 g1 st0 st1
  have k0 := HF8.out.c0
  have k1 := HF8.out.c1
  clear hb8 HB7 HR7 HS7 HF7 HC
  go_wp2_with fail
  refine (HK.out _ _ _ _ _ HR8.out HS8.out).mono ?_
  rintro e w9 ⟨rfl, hb9⟩
  have HB9 := (show Hid (Below w.heap.size w w9) from HB8.out.trans (hb9.mono HB8.out.size))
  clear hb9 HB8 HR8 HS8 HF8 HK k0 k1
  go_wp2_with fail
  go_ret
  exact ⟨rfl, HB9.out⟩
end Go.Proofs.YthffklhojdldkaaGreatDoor

namespace Go.Proofs.YthffklhojdldkaaGreatDoor
open Go.RowKit
theorem lex_ok {s : ByteArray} {X : List Tk} (h : lexR (oneP s) s = .inl X) (W : World) (hg : GW W) : Calls Tryz.prog 12 #[.string s] W fun e' w' => (∃ v, e' = .returned (.tuple #[v, .agg #[.int .i64 0, .int .i64 0]]) ∧ w'.ownsRow W.heap.size 45 9 v X.length (tkc X)) ∧ Below W.heap.size W w' := by
  have h2 := lexP_any s W hg.s
  rw [h] at h2
  exact h2
theorem lex_no {s : ByteArray} {p : Nat × Int} (h : lexR (oneP s) s = .inr p) (W : World) (hg : GW W) : Calls Tryz.prog 12 #[.string s] W fun e' w' => e' = .returned (.tuple #[.slice none 0 0, .agg #[.int .i64 p.1, .int .i64 p.2]]) ∧ Below W.heap.size W w' := by
  have h2 := lexP_any s W hg.s
  rw [h] at h2
  exact h2
theorem back_any (A : Option Addr) (c : Nat) (L : List Tk) (s : ByteArray) (w : World) (hg : GW w) (hin : InT w A c L) (hl : L.length * 80 ≤ 140737488351232) (hb : ∀ t ∈ L, TkB t) : Calls Tryz.prog 4 #[.slice A L.length c, .string s] w fun e w' => e = .returned (.bool true) ∧ Below w.heap.size w w' := by
  have HG : ∀ W, Below w.heap.size w W → GW W := fun W hW => hg.later hW
  have HIn : Hid (∀ W, Below w.heap.size w W → RdO W A L) := fun W hW => hin.r.later hW
  have HW : Hid (∀ _ : Unit, Calls Tryz.prog 11 #[] w fun e w' => e = .returned (.bool true) ∧ Below w.heap.size w w') := fun _ => works_any w hg.s
  have HT0 : ∀ W, Below w.heap.size w W → Calls Tryz.prog 8 #[.slice A L.length c] W fun e w' => e = .returned (.tuple #[.string (txR L).1, .int .i64 (txR L).2]) ∧ Below W.heap.size W w' := fun W hW => textP_any A c L W (HG W hW) (HIn.out W hW) (by omega) hb
  have second : ∀ X, lexR (oneP s) s = .inl X → (∀ t ∈ X, Rgt t) → X.length ≤ 65536 → (∀ A c W, Below w.heap.size w W → RdO W A X → Calls Tryz.prog 8 #[.slice A X.length c] W fun e w' => e = .returned (.tuple #[.string (txR X).1, .int .i64 (txR X).2]) ∧ Below W.heap.size W w') := fun X _ hr hx A c W hW hA => textP_any A c X W (HG W hW) hA (by omega) (fun t ht => (hr t ht).b)
  have third : ∀ X, (∀ t ∈ X, Rgt t) → X.length ≤ 65536 → (ckR X).2 = 0 → (∀ A c W, RdO W A X → Calls Tryz.prog 6 #[.slice A X.length c] W fun e w' => e = .returned (.tuple #[.int .i64 0, .int .i64 0]) ∧ Below W.heap.size W w') := fun X hr hx hk A c W hA => by
    have h := checkP_any A c X W hA (by omega) (fun t ht => (hr t ht).b)
    rw [ckR_read hr hk] at h
    exact h
  rcases txR_two L with ⟨q0, q1, q2, q3⟩ | ⟨q0, q1⟩
  · obtain ⟨hl4, hall⟩ := ckR_all q2
    obtain ⟨M, m1, m2⟩ := lex_back L hall hb q3
    have hml : M.length = L.length := by have := congrArg List.length m2; simpa using this
    have HK0 : Hid (∀ A1 A2 c1 c2 W, RdO W A1 M → RdO W A2 L → Calls Tryz.prog 13 #[.slice A1 M.length c1, .slice A2 L.length c2] W fun e w' => e = .returned (.bool true) ∧ Below W.heap.size W w') := fun A1 A2 c1 c2 W a b => alikeO_any A1 A2 c1 c2 M L m2 (by omega) W a b
    rw [q1] at HT0
    cases hx : lexR (oneP s) s with
    | inr p =>
      obtain ⟨b1, b2⟩ := lex_bad hx
      exact bk_aa A c L s w _ M HIn HT0 (fun W hW => lex_ok m1 W (HG W hW)) HK0 p.1 p.2 b1 b2 (fun W hW => lex_no hx W (HG W hW)) HW
    | inl X =>
      have hrg := lex_rgt hx
      have hlen := lex_len hx
      have hT := second X hx hrg hlen
      rcases txR_two X with ⟨x0, x1, x2, x3⟩ | ⟨x0, x1⟩
      · obtain ⟨Y, y1, y2⟩ := lex_back X (fun t ht => (hrg t ht).r) (fun t ht => (hrg t ht).b) x3
        rw [x1] at hT
        exact bk_ab A c L s w _ M HIn HT0 (fun W hW => lex_ok m1 W (HG W hW)) HK0 X (fun W hW => lex_ok hx W (HG W hW)) _ Y hT (third X hrg hlen x2) (fun W hW => lex_ok y1 W (HG W hW)) (fun A1 A2 c1 c2 W a b => alikeO_any A1 A2 c1 c2 X Y y2.symm (by omega) W a b) HW
      · have x2 : (txR X).2 = 2 := by
          rcases txR_read hrg with h | h
          · exact absurd h x0
          · exact h
        rw [x1, x2] at hT
        exact bk_ac A c L s w _ M HIn HT0 (fun W hW => lex_ok m1 W (HG W hW)) HK0 X (fun W hW => lex_ok hx W (HG W hW)) hT HW
  · rw [q1] at HT0
    cases hx : lexR (oneP s) s with
    | inr p =>
      obtain ⟨b1, b2⟩ := lex_bad hx
      exact bk_ba A c L s w _ q0 HT0 p.1 p.2 b1 b2 (fun W hW => lex_no hx W (HG W hW)) HW
    | inl X =>
      have hrg := lex_rgt hx
      have hlen := lex_len hx
      have hT := second X hx hrg hlen
      rcases txR_two X with ⟨x0, x1, x2, x3⟩ | ⟨x0, x1⟩
      · obtain ⟨Y, y1, y2⟩ := lex_back X (fun t ht => (hrg t ht).r) (fun t ht => (hrg t ht).b) x3
        rw [x1] at hT
        exact bk_bb A c L s w _ q0 HT0 X (fun W hW => lex_ok hx W (HG W hW)) _ Y hT (third X hrg hlen x2) (fun W hW => lex_ok y1 W (HG W hW)) (fun A1 A2 c1 c2 W a b => alikeO_any A1 A2 c1 c2 X Y y2.symm (by omega) W a b) HW
      · have x2 : (txR X).2 = 2 := by
          rcases txR_read hrg with h | h
          · exact absurd h x0
          · exact h
        rw [x1, x2] at hT
        exact bk_bc A c L s w _ q0 HT0 X (fun W hW => lex_ok hx W (HG W hW)) hT HW
end Go.Proofs.YthffklhojdldkaaGreatDoor

namespace Go.Proofs.YthffklhojdldkaaGreatDoor
open Go.ChangeShapes Go.WideShapes Go.ChangeAt Go.RowKit
open Go.ChangeMaps (open_string shut_string)
set_option maxRecDepth 100000 in
theorem tokenBack_contract (H : Type) (enc : TypeId × Value → H) (W : World) (base : Nat) (args : Array Value) (ds gs : List (DataW H)) (before : List MemPlace)
    (hval0 : ∀ (j : Nat) t v, Tryz.f4.params[j]? = some t → args[j]? = some v → Value.okWide Tryz.prog W .any base t v)
    (hW : DataW.Whole enc Tryz.prog Tryz.f4.params.toList Rows.tokenBackSpec.vars false W args.toList ds gs before) (hvb : GW W)
    (hsz : (DataW.weightsEach Tryz.prog (Tryz.f4.params.toList ++ (OpenSpec.ofChange Rows.tokenBackSpec).bare.plain.varTypes Tryz.prog) (ds ++ gs)).all (· ≤ reachBytes) = true) :
    Calls Tryz.prog 4 args W fun e W' => ∃ v, e = .returned v ∧ Rows.tokenBackSpec.post enc Tryz.prog Tryz.f4 false true false false W args v W' := by
  have hval : ∀ (j : Nat) t v, Tryz.f4.params[j]? = some t → args[j]? = some v → Value.okWide Tryz.prog W .any base t v := hval0
  have hW' := hW
  obtain ⟨p, q, hA0, hV, rfl, hfz, hnd⟩ := hW
  have hA : DataW.TrodAll enc Tryz.prog W 0 (fun _ => true) true Tryz.f4.params.toList args.toList ds p := hA0
  rw [Tryz.params4] at hA hval hsz
  obtain ⟨v1, v2, d1, d2, p1, p2, rfl, rfl, rfl, h1, h2⟩ := trodAll_two hA
  obtain ⟨rfl, rfl⟩ := trodVars_none hV
  have lt1 : ∀ x ∈ p1, x.block < W.heap.size := by obtain ⟨m, hm⟩ := h1; exact DataW.trod_lt m _ _ _ hm
  obtain ⟨A1, cp1, l1, rfl, hin1, htb1, hlw1⟩ := open_toks h1 (okWide_slice Tryz.underlying22 (hval 0 22 v1 rfl rfl))
  have hl1 := hlw1 (sized_at hsz (j := 0) rfl rfl)
  obtain ⟨s2, rfl, rfl, rfl, hs2⟩ := open_string Tryz.underlying9 (hval 1 9 v2 rfl rfl) h2
  clear hA0 hval0
  refine (back_any A1 cp1 l1 s2 W hvb hin1 hl1 htb1).mono fun e W' ⟨he, bel⟩ => ?_
  subst he
  exact ⟨_, rfl, _, _, _, [], _, [], hW', trodAll_mk1 (shut_bool Tryz.underlying4 _), (trodAll_cons_mk (Below.trod laidOut (by kernel_rfl) (of_decide_eq_true (by kernel_rfl)) h1 bel lt1) (trodAll_cons_mk (shut_string Tryz.underlying9 hs2) trodAll_mk0)), rfl, bel.frame _, fun h => by cases h⟩

theorem tokenBack_met (os : Os) : laidMet Tryz.prog Rows.tokenBackRow.laid ((layTab (World.holding Tryz.prog os ⟨#[], #[], []⟩)).forCall (fun _ _ => 0) ⟨#[], #[.slice none 0 0, .string ByteArray.empty], []⟩).memory :=
  laidMet_of_run' 8 (by kernel_rfl) (by kernel_rfl)
theorem tokenBack_reads (os : Os) {H : Type} (enc : TypeId × Value → H) : ∃ places, DataW.whole enc Tryz.prog ((layTab (World.holding Tryz.prog os ⟨#[], #[], []⟩)).forCall (fun _ _ => 0) ⟨#[], #[.slice none 0 0, .string ByteArray.empty], []⟩).memory Tryz.f4.params.toList Rows.tokenBackSpec.vars false (#[.slice none 0 0, .string ByteArray.empty] : Array Value).toList 8 = some ([.nil, .lit (.string [])], [], places) :=
  ⟨[], by kernel_rfl⟩

set_option maxRecDepth 100000 in
theorem tokenBack_lifted (os : Os) (started : os.Started) (H : Type) (enc : TypeId × Value → H) (F : Stop.Interp) :
    ReturnsInHanded {} Tryz.checked os 4 .any ((OpenSpec.ofChange Rows.tokenBackSpec).preRow enc Tryz.prog Tryz.f4 Rows.tokenBackRow.domain false Rows.tokenBackRow.laid) (((OpenSpec.ofChange Rows.tokenBackSpec).at F).post enc Tryz.prog Tryz.f4 false true false false) := by
  obtain ⟨places, hx⟩ := tokenBack_reads os enc
  refine returnsInHanded_of_row (C := Tryz.checked) (s := OpenSpec.ofChange Rows.tokenBackSpec) own started (by kernel_rfl) Tryz.func4
    (witness_row_at (enc := enc) (C := Tryz.checked) false (layTab (World.holding Tryz.prog os ⟨#[], #[], []⟩)) #[.slice none 0 0, .string ByteArray.empty] rfl (by kernel_rfl) (by kernel_rfl) (by kernel_rfl)
      (OpenSpec.preRow_of_cond 8 hx (by kernel_rfl) (fun k hk => by cases hk) (by kernel_rfl) (tokenBack_met os))) ?_
  intro W base args ds gs before hval hW _ hcond hsz hL _ _
  exact tokenBack_contract H enc W base args ds gs before hval hW (gw_of_laid hL) hsz

theorem tokenBack_row : Rows.TokenBackSaid :=
  OpenClaim.holds_of_cond 4 Tryz.f4 rfl rfl rfl rfl rfl rfl rfl ⟨rfl, rfl, rfl, rfl, rfl⟩ rfl rfl rfl rfl rfl (by kernel_rfl) Tryz.func4 (by kernel_rfl)
    (of_decide_eq_true (by kernel_rfl)) (by unfold Func.isWrapper; first | (rw [if_pos (by decide +kernel)]; kernel_rfl) | (rw [if_neg (by decide +kernel)]; exact ⟨rfl, rfl⟩))
    (fun os started H enc _ F => by rw [OpenClaim.pre_eq_preRow]; exact tokenBack_lifted os started H enc F)
theorem tokenBack_plain (f : FuncId) (fn : Func) (hf : Tryz.pinned.checked.prog.funcNamed "harrow/harrowlaw05.TokenBack" = some f) (hfn : Tryz.pinned.checked.prog.funcs[f]? = some fn) :
    false = Tryz.pinned.checked.prog.looks [] ∧ ∀ (j : Nat) t, fn.params[j]? = some t → Tryz.pinned.checked.prog.wantsStandIn t = false := by
  obtain rfl : f = 4 := Option.some.inj ((show Tryz.prog.funcNamed "harrow/harrowlaw05.TokenBack" = some 4 by kernel_rfl).symm.trans hf) |>.symm
  obtain rfl : fn = Tryz.f4 := (Option.some.inj (Tryz.func4.symm.trans hfn)).symm
  refine ⟨by kernel_rfl, fun j t ht => ?_⟩
  rw [Tryz.params4] at ht
  have hm : t ∈ [22, 9] := by simpa using Array.mem_of_getElem? ht
  have hall : ([22, 9].all fun u => !Tryz.prog.wantsStandIn u) = true := by kernel_rfl
  exact (show Tryz.prog.wantsStandIn t = false by simpa using List.all_eq_true.1 hall t hm)
theorem tokenBack_holds : Rows.TokenBackCardSaid :=
  Claim7.holds_tied_plain_at .later [] _ _ _ _ tokenBack_row (fun _ h => by cases h) (by kernel_rfl) (fun _ h => by cases h) tokenBack_row_tie rfl ⟨rfl, rfl⟩ (by kernel_rfl) rfl tokenBack_plain (by kernel_rfl)
end Go.Proofs.YthffklhojdldkaaGreatDoor
