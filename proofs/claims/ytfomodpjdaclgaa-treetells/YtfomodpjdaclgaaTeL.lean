/- DERIVED. The walk of TreeTells. -/
import Derived.Test.YtfomodpjdaclgaaNmE
namespace Go.Proofs.Ytfomodpjdaclgaa
open Go.RowKit

theorem nmE_len (L : List Nd) : (nmE L).length ≤ 4096 := by
  unfold nmE
  split
  · next h => have := nmL_len L L.length; have := (rt_of h).len; omega
  · simp
set_option maxRecDepth 100000 in
set_option maxHeartbeats 8000000 in
theorem treeTells_law (A : Option Addr) (c : Nat) (L : List Nd) (hl : L.length * 64 ≤ 140737488351232) (hT : ∀ n ∈ L, n.tx.size ≤ 140737488351232) (w : World) (h : InP w A c L) :
    Calls Try.prog 8 #[.slice A L.length c] w fun e w' => e = .returned (.bool true) ∧ Below w.heap.size w w' := by
  have hT2 : ∀ n ∈ L, n.tx.size ≤ 140737488355328 := fun n hn => by have := hT n hn; omega
  have hl2 : L.length ≤ 140737488355328 := by omega
  have H9 : Hid (∀ _ : Unit, Calls Try.prog 9 #[.slice A L.length c] w fun e w' => Lent w w' L e ∧ Below w.heap.size w w') := fun _ => lend_any A c L w hl h
  have H31 : Hid (∀ W g cap, LentR W w.heap.size g cap L → Calls Try.prog 31 #[.slice (some ⟨g, 0, none⟩) L.length cap] W fun e w' => NmV W w' L e ∧ Below W.heap.size W w') := fun W g cap hr => names_any L _ cap hl2 hT2 W hr.rd
  have H32 : Hid (∀ W, Below w.heap.size w W → Calls Try.prog 32 #[.slice A L.length c] W fun e w' => NmV W w' L e ∧ Below W.heap.size W w') := fun W hW => namesR_any L A c hl2 hT2 W (h.1.below hW (Nat.le_refl _))
  have H33 : Hid (∀ W g cap, LentR W w.heap.size g cap L → Calls Try.prog 33 #[.slice (some ⟨g, 0, none⟩) L.length cap] W fun e w' => e = .returned (.tuple #[.int .i64 (cpE L), .int .i64 (ck L).2]) ∧ Below W.heap.size W w') := fun W g cap hr => captures_any L _ cap hl2 hT2 W hr.rd
  have H34 : Hid (∀ W, Below w.heap.size w W → Calls Try.prog 34 #[.slice A L.length c] W fun e w' => e = .returned (.tuple #[.int .i64 (cpE L), .int .i64 (ck L).2]) ∧ Below W.heap.size W w') := fun W hW => capturesR_any L A c hl2 hT2 W (h.1.below hW (Nat.le_refl _))
  have H12 : Hid (∀ w, Calls Try.prog 12 #[] w fun e w' => e = .returned (.bool true) ∧ Below w.heap.size w w') := fun w => lives_any w
  have H35 : Hid (∀ W v1 v2 B1 B2, W.ownsRow B1 9 1 v1 (nmE L).length (stc (nmE L)) → W.ownsRow B2 9 1 v2 (nmE L).length (stc (nmE L)) → Calls Try.prog 35 #[v1, v2] W fun e w' => e = .returned (.bool true) ∧ Below W.heap.size W w') := fun W v1 v2 B1 B2 h1 h2 => sameTexts_any v1 v2 (nmE L) (nmE_len L) W (own_rdt h1 rfl) (own_rdt h2 rfl)
  have H15 : Hid (∀ W g cap, Below w.heap.size w W → LentR W w.heap.size g cap L → Calls Try.prog 15 #[.slice (some ⟨g, 0, none⟩) L.length cap, .slice A L.length c] W fun e w' => e = .returned (.bool true) ∧ Below W.heap.size W w') := fun W g cap hW hr => kept_any A c g cap _ L hl W (h.1.below hW (Nat.le_refl _)) hr
  clear h hT hT2 hl hl2
  go_enter Try.func8, Try.ntmps8
  go_wp2_with fail
  refine (H9.out ()).mono ?_
  rintro e w2 ⟨⟨g, cap, rfl, hr⟩, b2⟩
  have HR2 := (show Hid (LentR w2 w.heap.size g cap L) from hr)
  have HB2 := (show Hid (Below w.heap.size w w2) from b2)
  clear H9 hr b2
  go_wp2_with fail
  refine (H31.out _ _ _ HR2.out).mono ?_
  rintro e w3 ⟨⟨va, rfl, ho3⟩, b3⟩
  have HR3 := (show Hid (LentR w3 w.heap.size g cap L) from HR2.out.below b3)
  have HB3 := (show Hid (Below w.heap.size w w3) from HB2.out.trans (b3.mono HB2.out.size))
  have HQ3 := (show Hid (w3.ownsRow w2.heap.size 9 1 va (nmE L).length (stc (nmE L))) from ho3)
  clear H31 HR2 HB2 b3 ho3
  go_wp2_with fail
  refine (H32.out _ HB3.out).mono ?_
  rintro e w4 ⟨⟨vb, rfl, ho4⟩, b4⟩
  have HR4 := (show Hid (LentR w4 w.heap.size g cap L) from HR3.out.below b4)
  have HB4 := (show Hid (Below w.heap.size w w4) from HB3.out.trans (b4.mono HB3.out.size))
  have HQ4 := (show Hid (w4.ownsRow w2.heap.size 9 1 va (nmE L).length (stc (nmE L)) ∧ w4.ownsRow w3.heap.size 9 1 vb (nmE L).length (stc (nmE L))) from ⟨own_below HQ3.out b4, ho4⟩)
  clear H32 HR3 HB3 b4 ho4 HQ3
  go_wp2_with fail
  refine (H33.out _ _ _ HR4.out).mono ?_
  rintro e w5 ⟨rfl, b5⟩
  have HR5 := (show Hid (LentR w5 w.heap.size g cap L) from HR4.out.below b5)
  have HB5 := (show Hid (Below w.heap.size w w5) from HB4.out.trans (b5.mono HB4.out.size))
  have HQ5 := (show Hid (w5.ownsRow w2.heap.size 9 1 va (nmE L).length (stc (nmE L)) ∧ w5.ownsRow w3.heap.size 9 1 vb (nmE L).length (stc (nmE L))) from ⟨own_below HQ4.out.1 b5, own_below HQ4.out.2 b5⟩)
  clear H33 HR4 HB4 b5 HQ4
  go_wp2_with fail
  refine (H34.out _ HB5.out).mono ?_
  rintro e w6 ⟨rfl, b6⟩
  have HR6 := (show Hid (LentR w6 w.heap.size g cap L) from HR5.out.below b6)
  have HB6 := (show Hid (Below w.heap.size w w6) from HB5.out.trans (b6.mono HB5.out.size))
  have HQ6 := (show Hid (w6.ownsRow w2.heap.size 9 1 va (nmE L).length (stc (nmE L)) ∧ w6.ownsRow w3.heap.size 9 1 vb (nmE L).length (stc (nmE L))) from ⟨own_below HQ5.out.1 b6, own_below HQ5.out.2 b6⟩)
  clear H34 HR5 HB5 b6 HQ5
  go_wp2_with fail
  refine (H12.out _).mono ?_
  rintro e w7 ⟨rfl, b7⟩
  have HR7 := (show Hid (LentR w7 w.heap.size g cap L) from HR6.out.below b7)
  have HB7 := (show Hid (Below w.heap.size w w7) from HB6.out.trans (b7.mono HB6.out.size))
  have HQ7 := (show Hid (w7.ownsRow w2.heap.size 9 1 va (nmE L).length (stc (nmE L)) ∧ w7.ownsRow w3.heap.size 9 1 vb (nmE L).length (stc (nmE L))) from ⟨own_below HQ6.out.1 b7, own_below HQ6.out.2 b7⟩)
  clear H12 HR6 HB6 b7 HQ6
  go_wp2_with fail
  refine (H35.out _ _ _ _ _ HQ7.out.1 HQ7.out.2).mono ?_
  rintro e w8 ⟨rfl, b8⟩
  have HR8 := (show Hid (LentR w8 w.heap.size g cap L) from HR7.out.below b8)
  have HB8 := (show Hid (Below w.heap.size w w8) from HB7.out.trans (b8.mono HB7.out.size))
  clear H35 HR7 HB7 b8 HQ7
  go_wp2_with fail
  refine (H15.out _ _ _ HB8.out HR8.out).mono ?_
  rintro e w9 ⟨rfl, b9⟩
  have HB9 := (show Hid (Below w.heap.size w w9) from HB8.out.trans (b9.mono HB8.out.size))
  clear H15 HR8 HB8 b9
  go_wp2_with fail
  go_ret
  exact ⟨rfl, HB9.out⟩
end Go.Proofs.Ytfomodpjdaclgaa
