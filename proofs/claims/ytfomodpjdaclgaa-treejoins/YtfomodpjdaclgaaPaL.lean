/- DERIVED. The walk of TreeParts. -/
import Derived.Test.YtfomodpjdaclgaaPtA
namespace Go.Proofs.Ytfomodpjdaclgaa
open Go.RowKit

def prE (L : List Nd) (at' : Int) : List Nd := if fdE L at' = 0 then cutL L (pt L at'.toNat).1 (at'.toNat + 1) else []
def psE (L : List Nd) (at' : Int) : List Int := if fdE L at' = 0 then (((run L at'.toNat).take (arN (opAt L at'.toNat))).reverse).map (fun p => (p.2.1 : Int)) else []
theorem prE_len {L : List Nd} {at' : Int} : (prE L at').length ≤ 2048 := by
  unfold prE
  split
  · next h =>
    obtain ⟨hr, j, hj, hjl⟩ := fdE_ok h
    have := hr.len
    unfold cutL
    rw [List.length_take, List.length_drop]
    omega
  · simp
theorem psE_len {L : List Nd} {at' : Int} : (psE L at').length ≤ 4 := by
  unfold psE
  split
  · rw [List.length_map, List.length_reverse, List.length_take]
    have := arN_le (opAt L at'.toNat)
    omega
  · simp
theorem PrV.row {w w' : World} {L : List Nd} {at' : Int} {e : Ending} (h : PrV w w' L at' e) : ∃ v, e = .returned (.tuple #[v, .int .i64 (fdE L at')]) ∧ w'.ownsRow w.heap.size 43 7 v (prE L at').length (ndc (prE L at')) := by
  obtain ⟨v, he, h⟩ := h
  refine ⟨v, he, ?_⟩
  unfold prE
  rcases h with ⟨h0, rfl⟩ | ⟨h0, h1⟩
  · rw [if_neg h0]; exact World.ownsRow_nil _ _ _ _
  · rw [if_pos h0]; exact h1
theorem PsV.row {w w' : World} {L : List Nd} {at' : Int} {e : Ending} (h : PsV w w' L at' e) : ∃ v, e = .returned (.tuple #[v, .int .i64 (fdE L at')]) ∧ w'.ownsRow w.heap.size 3 1 v (psE L at').length ((psE L at').map fun x => .int .i64 x) := by
  obtain ⟨v, he, h⟩ := h
  refine ⟨v, he, ?_⟩
  unfold psE
  rcases h with ⟨h0, rfl⟩ | ⟨h0, h1⟩
  · rw [if_neg h0]; exact World.ownsRow_nil _ _ _ _
  · rw [if_pos h0]
    have e1 : (((run L at'.toNat).take (arN (opAt L at'.toNat))).reverse.map (fun p => (p.2.1 : Int))).map (fun x => Value.int .i64 x) = lastc ((run L at'.toNat).take (arN (opAt L at'.toNat))).reverse := by
      unfold lastc
      rw [List.map_map]
      rfl
    have hl := h1.1
    rw [e1, List.length_map]
    rw [lastc_len, Nat.mul_one] at hl
    rw [hl]
    exact h1
theorem own_rd {W : World} {B n : Nat} {v : Value} {L : List Nd} (h : W.ownsRow B 43 7 v n (ndc L)) (hn : n = L.length) : ∃ A c, v = .slice A L.length c ∧ RdN W A L := by
  subst hn
  have hc := h
  rcases h.2 with ⟨rfl, h0⟩ | ⟨g, cap, cur, rfl, _⟩
  · exact ⟨none, 0, by rw [h0], fun hl => absurd (List.eq_nil_of_length_eq_zero h0) hl⟩
  · have hc2 : W.ownsRow B 43 7 (.slice (some ⟨g, 0, none⟩) L.length cap) L.length (ndc L ++ []) := by rw [List.append_nil]; exact hc
    exact ⟨_, cap, rfl, fun _ => ⟨g, 0, rfl, (hc.lt g rfl).2, own_ndl hc2⟩⟩
theorem same_rows (v1 v2 : Value) (B1 B2 : Nat) (L : List Nd) (hl : L.length ≤ 140737488355328) (w : World) (h1 : w.ownsRow B1 43 7 v1 L.length (ndc L)) (h2 : w.ownsRow B2 43 7 v2 L.length (ndc L)) :
    Calls Try.prog 24 #[v1, v2] w fun e w' => e = .returned (.bool true) ∧ Below w.heap.size w w' := by
  obtain ⟨A1, c1, rfl, r1⟩ := own_rd h1 rfl
  obtain ⟨A2, c2, rfl, r2⟩ := own_rd h2 rfl
  have h := samePattern_any A1 A2 c1 c2 L L hl hl w r1 r2
  rw [patB_refl] at h
  exact h

set_option maxRecDepth 100000 in
set_option maxHeartbeats 8000000 in
theorem treeParts_law (A : Option Addr) (c : Nat) (L : List Nd) (at' : Int) (hl : L.length * 64 ≤ 140737488351232) (hT : ∀ n ∈ L, n.tx.size ≤ 140737488351232) (hcap : L.length ≤ c) (w : World) (h : InP w A c L) :
    Calls Try.prog 4 #[.slice A L.length c, .int .i64 at'] w fun e w' => e = .returned (.bool true) ∧ Below w.heap.size w w' := by
  have hT2 : ∀ n ∈ L, n.tx.size ≤ 140737488355328 := fun n hn => by have := hT n hn; omega
  have hl2 : L.length ≤ 140737488355328 := by omega
  have H9 : Hid (∀ _ : Unit, Calls Try.prog 9 #[.slice A L.length c] w fun e w' => Lent w w' L e ∧ Below w.heap.size w w') := fun _ => lend_any A c L w hl h
  have H16 : Hid (∀ W g cap, LentR W w.heap.size g cap L → Calls Try.prog 16 #[.slice (some ⟨g, 0, none⟩) L.length cap, .int .i64 at'] W fun e w' => e = .returned (.tuple #[.int .i64 (bgE L at'), .int .i64 (fdE L at')]) ∧ Below W.heap.size W w') := fun W g cap hr => begin_any L _ cap at' hl2 hT2 W hr.rd
  have H17 : Hid (∀ W, Below w.heap.size w W → Calls Try.prog 17 #[.slice A L.length c, .int .i64 at'] W fun e w' => e = .returned (.tuple #[.int .i64 (bgE L at'), .int .i64 (fdE L at')]) ∧ Below W.heap.size W w') := fun W hW => beginR_any L A c at' hl2 hT2 W (h.1.below hW (Nat.le_refl _))
  have H18 : Hid (∀ W g cap, LentR W w.heap.size g cap L → Calls Try.prog 18 #[.slice (some ⟨g, 0, none⟩) L.length cap, .int .i64 at'] W fun e w' => (∃ v, e = .returned (.tuple #[v, .int .i64 (fdE L at')]) ∧ w'.ownsRow W.heap.size 43 7 v (prE L at').length (ndc (prE L at'))) ∧ Below W.heap.size W w') := fun W g cap hr => (part_any L _ cap at' (by have := own_cap hr; omega) hl2 hT2 W hr.rd).mono fun e w' ⟨h1, h2⟩ => ⟨h1.row, h2⟩
  have H19 : Hid (∀ W, Below w.heap.size w W → Calls Try.prog 19 #[.slice A L.length c, .int .i64 at'] W fun e w' => (∃ v, e = .returned (.tuple #[v, .int .i64 (fdE L at')]) ∧ w'.ownsRow W.heap.size 43 7 v (prE L at').length (ndc (prE L at'))) ∧ Below W.heap.size W w') := fun W hW => (partR_any L A c at' hcap hl2 hT2 W (h.1.below hW (Nat.le_refl _))).mono fun e w' ⟨h1, h2⟩ => ⟨h1.row, h2⟩
  have H20 : Hid (∀ W g cap, LentR W w.heap.size g cap L → Calls Try.prog 20 #[.slice (some ⟨g, 0, none⟩) L.length cap, .int .i64 at'] W fun e w' => (∃ v, e = .returned (.tuple #[v, .int .i64 (fdE L at')]) ∧ w'.ownsRow W.heap.size 3 1 v (psE L at').length ((psE L at').map fun x => .int .i64 x)) ∧ Below W.heap.size W w') := fun W g cap hr => (parts_any L _ cap at' hl2 hT2 W hr.rd).mono fun e w' ⟨h1, h2⟩ => ⟨h1.row, h2⟩
  have H21 : Hid (∀ W, Below w.heap.size w W → Calls Try.prog 21 #[.slice A L.length c, .int .i64 at'] W fun e w' => (∃ v, e = .returned (.tuple #[v, .int .i64 (fdE L at')]) ∧ w'.ownsRow W.heap.size 3 1 v (psE L at').length ((psE L at').map fun x => .int .i64 x)) ∧ Below W.heap.size W w') := fun W hW => (partsR_any L A c at' hl2 hT2 W (h.1.below hW (Nat.le_refl _))).mono fun e w' ⟨h1, h2⟩ => ⟨h1.row, h2⟩
  have H22 : Hid (∀ W g cap, LentR W w.heap.size g cap L → Calls Try.prog 22 #[.slice (some ⟨g, 0, none⟩) L.length cap] W fun e w' => e = .returned (.tuple #[.int .i64 (htE L), .int .i64 (ck L).2]) ∧ Below W.heap.size W w') := fun W g cap hr => height_any L _ cap hl2 hT2 W hr.rd
  have H23 : Hid (∀ W, Below w.heap.size w W → Calls Try.prog 23 #[.slice A L.length c] W fun e w' => e = .returned (.tuple #[.int .i64 (htE L), .int .i64 (ck L).2]) ∧ Below W.heap.size W w') := fun W hW => heightR_any L A c hl2 hT2 W (h.1.below hW (Nat.le_refl _))
  have H12 : Hid (∀ w, Calls Try.prog 12 #[] w fun e w' => e = .returned (.bool true) ∧ Below w.heap.size w w') := fun w => lives_any w
  have H24 : Hid (∀ W v1 v2 B1 B2, W.ownsRow B1 43 7 v1 (prE L at').length (ndc (prE L at')) → W.ownsRow B2 43 7 v2 (prE L at').length (ndc (prE L at')) → Calls Try.prog 24 #[v1, v2] W fun e w' => e = .returned (.bool true) ∧ Below W.heap.size W w') := fun W v1 v2 B1 B2 h1 h2 => same_rows v1 v2 B1 B2 _ (Nat.le_trans prE_len (by omega)) W h1 h2
  have H25 : Hid (∀ W v1 v2 B1 B2, W.ownsRow B1 3 1 v1 (psE L at').length ((psE L at').map fun x => .int .i64 x) → W.ownsRow B2 3 1 v2 (psE L at').length ((psE L at').map fun x => .int .i64 x) → Calls Try.prog 25 #[v1, v2] W fun e w' => e = .returned (.bool true) ∧ Below W.heap.size W w') := fun W v1 v2 B1 B2 h1 h2 => sameInts_any v1 v2 B1 B2 _ _ psE_len W h1 h2
  have H15 : Hid (∀ W g cap, Below w.heap.size w W → LentR W w.heap.size g cap L → Calls Try.prog 15 #[.slice (some ⟨g, 0, none⟩) L.length cap, .slice A L.length c] W fun e w' => e = .returned (.bool true) ∧ Below W.heap.size W w') := fun W g cap hW hr => kept_any A c g cap _ L hl W (h.1.below hW (Nat.le_refl _)) hr
  clear h hT hT2 hl hl2 hcap
  generalize (ck L).2 = ck2 at *
  generalize htE L = hte at *
  generalize bgE L at' = bge at *
  generalize fdE L at' = fde at *
  generalize prE L at' = pre at *
  generalize psE L at' = pse at *
  go_enter Try.func4, Try.ntmps4
  go_wp2_with fail
  refine (H9.out ()).mono ?_
  rintro e w2 ⟨⟨g, cap, rfl, hr⟩, b2⟩
  have HR2 := (show Hid (LentR w2 w.heap.size g cap L) from hr)
  have HB2 := (show Hid (Below w.heap.size w w2) from b2)
  clear H9 hr b2
  go_wp2_with fail
  refine (H16.out _ _ _ HR2.out).mono ?_
  rintro e w3 ⟨rfl, b3⟩
  have HR3 := (show Hid (LentR w3 w.heap.size g cap L) from HR2.out.below b3)
  have HB3 := (show Hid (Below w.heap.size w w3) from HB2.out.trans (b3.mono HB2.out.size))
  clear H16 HR2 HB2 b3
  go_wp2_with fail
  refine (H17.out _ HB3.out).mono ?_
  rintro e w4 ⟨rfl, b4⟩
  have HR4 := (show Hid (LentR w4 w.heap.size g cap L) from HR3.out.below b4)
  have HB4 := (show Hid (Below w.heap.size w w4) from HB3.out.trans (b4.mono HB3.out.size))
  clear H17 HR3 HB3 b4
  go_wp2_with fail
  refine (H18.out _ _ _ HR4.out).mono ?_
  rintro e w5 ⟨⟨vq, rfl, ho5⟩, b5⟩
  have HR5 := (show Hid (LentR w5 w.heap.size g cap L) from HR4.out.below b5)
  have HB5 := (show Hid (Below w.heap.size w w5) from HB4.out.trans (b5.mono HB4.out.size))
  have HQ5 := (show Hid (w5.ownsRow w4.heap.size 43 7 vq pre.length (ndc pre)) from ho5)
  clear H18 HR4 HB4 b5 ho5
  go_wp2_with fail
  refine (H19.out _ HB5.out).mono ?_
  rintro e w6 ⟨⟨vr, rfl, ho6⟩, b6⟩
  have HR6 := (show Hid (LentR w6 w.heap.size g cap L) from HR5.out.below b6)
  have HB6 := (show Hid (Below w.heap.size w w6) from HB5.out.trans (b6.mono HB5.out.size))
  have HQ6 := (show Hid (w6.ownsRow w4.heap.size 43 7 vq pre.length (ndc pre) ∧ w6.ownsRow w5.heap.size 43 7 vr pre.length (ndc pre)) from ⟨own_below HQ5.out b6, ho6⟩)
  clear H19 HR5 HB5 b6 ho6 HQ5
  go_wp2_with fail
  refine (H20.out _ _ _ HR6.out).mono ?_
  rintro e w7 ⟨⟨vl, rfl, ho7⟩, b7⟩
  have HR7 := (show Hid (LentR w7 w.heap.size g cap L) from HR6.out.below b7)
  have HB7 := (show Hid (Below w.heap.size w w7) from HB6.out.trans (b7.mono HB6.out.size))
  have HQ7 := (show Hid ((w7.ownsRow w4.heap.size 43 7 vq pre.length (ndc pre) ∧ w7.ownsRow w5.heap.size 43 7 vr pre.length (ndc pre)) ∧ w7.ownsRow w6.heap.size 3 1 vl pse.length (pse.map fun x => .int .i64 x)) from ⟨⟨own_below HQ6.out.1 b7, own_below HQ6.out.2 b7⟩, ho7⟩)
  clear H20 HR6 HB6 b7 ho7 HQ6
  go_wp2_with fail
  refine (H21.out _ HB7.out).mono ?_
  rintro e w8 ⟨⟨vm, rfl, ho8⟩, b8⟩
  have HR8 := (show Hid (LentR w8 w.heap.size g cap L) from HR7.out.below b8)
  have HB8 := (show Hid (Below w.heap.size w w8) from HB7.out.trans (b8.mono HB7.out.size))
  have HQ8 := (show Hid ((w8.ownsRow w4.heap.size 43 7 vq pre.length (ndc pre) ∧ w8.ownsRow w5.heap.size 43 7 vr pre.length (ndc pre)) ∧ w8.ownsRow w6.heap.size 3 1 vl pse.length (pse.map fun x => .int .i64 x) ∧ w8.ownsRow w7.heap.size 3 1 vm pse.length (pse.map fun x => .int .i64 x)) from ⟨⟨own_below HQ7.out.1.1 b8, own_below HQ7.out.1.2 b8⟩, own_below HQ7.out.2 b8, ho8⟩)
  clear H21 HR7 HB7 b8 ho8 HQ7
  go_wp2_with fail
  refine (H22.out _ _ _ HR8.out).mono ?_
  rintro e w9 ⟨rfl, b9⟩
  have HR9 := (show Hid (LentR w9 w.heap.size g cap L) from HR8.out.below b9)
  have HB9 := (show Hid (Below w.heap.size w w9) from HB8.out.trans (b9.mono HB8.out.size))
  have HQ9 := (show Hid ((w9.ownsRow w4.heap.size 43 7 vq pre.length (ndc pre) ∧ w9.ownsRow w5.heap.size 43 7 vr pre.length (ndc pre)) ∧ w9.ownsRow w6.heap.size 3 1 vl pse.length (pse.map fun x => .int .i64 x) ∧ w9.ownsRow w7.heap.size 3 1 vm pse.length (pse.map fun x => .int .i64 x)) from ⟨⟨own_below HQ8.out.1.1 b9, own_below HQ8.out.1.2 b9⟩, own_below HQ8.out.2.1 b9, own_below HQ8.out.2.2 b9⟩)
  clear H22 HR8 HB8 b9 HQ8
  go_wp2_with fail
  refine (H23.out _ HB9.out).mono ?_
  rintro e wa ⟨rfl, ba⟩
  have HRa := (show Hid (LentR wa w.heap.size g cap L) from HR9.out.below ba)
  have HBa := (show Hid (Below w.heap.size w wa) from HB9.out.trans (ba.mono HB9.out.size))
  have HQa := (show Hid ((wa.ownsRow w4.heap.size 43 7 vq pre.length (ndc pre) ∧ wa.ownsRow w5.heap.size 43 7 vr pre.length (ndc pre)) ∧ wa.ownsRow w6.heap.size 3 1 vl pse.length (pse.map fun x => .int .i64 x) ∧ wa.ownsRow w7.heap.size 3 1 vm pse.length (pse.map fun x => .int .i64 x)) from ⟨⟨own_below HQ9.out.1.1 ba, own_below HQ9.out.1.2 ba⟩, own_below HQ9.out.2.1 ba, own_below HQ9.out.2.2 ba⟩)
  clear H23 HR9 HB9 ba HQ9
  go_wp2_with fail
  refine (H12.out _).mono ?_
  rintro e wb ⟨rfl, bb⟩
  have HRb := (show Hid (LentR wb w.heap.size g cap L) from HRa.out.below bb)
  have HBb := (show Hid (Below w.heap.size w wb) from HBa.out.trans (bb.mono HBa.out.size))
  have HQb := (show Hid ((wb.ownsRow w4.heap.size 43 7 vq pre.length (ndc pre) ∧ wb.ownsRow w5.heap.size 43 7 vr pre.length (ndc pre)) ∧ wb.ownsRow w6.heap.size 3 1 vl pse.length (pse.map fun x => .int .i64 x) ∧ wb.ownsRow w7.heap.size 3 1 vm pse.length (pse.map fun x => .int .i64 x)) from ⟨⟨own_below HQa.out.1.1 bb, own_below HQa.out.1.2 bb⟩, own_below HQa.out.2.1 bb, own_below HQa.out.2.2 bb⟩)
  clear H12 HRa HBa bb HQa
  go_wp2_with fail
  refine (H24.out _ _ _ _ _ HQb.out.1.1 HQb.out.1.2).mono ?_
  rintro e wc ⟨rfl, bc⟩
  have HRc := (show Hid (LentR wc w.heap.size g cap L) from HRb.out.below bc)
  have HBc := (show Hid (Below w.heap.size w wc) from HBb.out.trans (bc.mono HBb.out.size))
  have HQc := (show Hid (wc.ownsRow w6.heap.size 3 1 vl pse.length (pse.map fun x => .int .i64 x) ∧ wc.ownsRow w7.heap.size 3 1 vm pse.length (pse.map fun x => .int .i64 x)) from ⟨own_below HQb.out.2.1 bc, own_below HQb.out.2.2 bc⟩)
  clear H24 HRb HBb bc HQb
  go_wp2_with fail
  refine (H25.out _ _ _ _ _ HQc.out.1 HQc.out.2).mono ?_
  rintro e wd ⟨rfl, bd⟩
  have HRd := (show Hid (LentR wd w.heap.size g cap L) from HRc.out.below bd)
  have HBd := (show Hid (Below w.heap.size w wd) from HBc.out.trans (bd.mono HBc.out.size))
  clear H25 HRc HBc bd HQc
  go_wp2_with fail
  refine (H15.out _ _ _ HBd.out HRd.out).mono ?_
  rintro e we ⟨rfl, be⟩
  have HBe := (show Hid (Below w.heap.size w we) from HBd.out.trans (be.mono HBd.out.size))
  clear H15 HRd HBd be
  go_wp2_with fail
  go_ret
  exact ⟨rfl, HBe.out⟩
end Go.Proofs.Ytfomodpjdaclgaa
