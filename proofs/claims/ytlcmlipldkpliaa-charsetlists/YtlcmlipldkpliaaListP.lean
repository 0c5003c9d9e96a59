/- DERIVED. What the law CharsetLists stands on. -/
import Derived.Test.YtlcmlipldkpliaaGone
import Derived.Test.YtlcmlipldkpliaaSpanR
import Derived.Test.YtlcmlipldkpliaaSame
import Derived.Test.YtlcmlipldkpliaaFold
import Derived.Test.YtlcmlipldkpliaaFoldR
import Derived.Test.YtlcmlipldkpliaaEqs
import Derived.Test.YtlcmlipldkpliaaBytesA
import Derived.LoopN
namespace Go.Proofs.Ytlcmlipldkpliaa
open Go.RowKit

/-- The number that a machine word leaves over 257. -/
theorem most_of (m : Int) : ∃ M : Nat, M < 257 ∧ (IntKind.u64.wrap m).tmod 257 = (M : Int) := by
  refine ⟨((m % 18446744073709551616) % 257).toNat, by omega, ?_⟩
  rw [IntKind.wrap_u64, tmod_of_emod]; omega

/-- The world of the law: the set in its box, what was there as it was. -/
structure AtL (w W : World) (x : BitVec 256) : Prop where
  x : Holds W w.heap.size x
  b : Below w.heap.size w W
theorem AtL.step {w W W' : World} {x : BitVec 256} (h : AtL w W x) (hb : Below W.heap.size W W') : AtL w W' x := ⟨h.x.below hb h.x.lt, h.b.trans (hb.mono h.b.size)⟩
theorem AtL.drew {w W : World} {x : BitVec 256} (h : AtL w W x) : AtL w W.drew x := ⟨h.x.drew, h.b.drew⟩
theorem AtL.drewN {w W : World} {x : BitVec 256} (h : AtL w W x) (n : Nat) : AtL w (W.drewN n) x := h.step (below_drewN (Below.refl _ _) n)
theorem AtL.start (w : World) (x : BitVec 256) : AtL w (w.alloc (c4 x)) x := ⟨Holds.new w x, (Below.refl _ _).alloc (Nat.le_refl _) _⟩

/-- A slice of integers that reads as a list. -/
def ReadsI (w : World) (v : Value) (l : List Int) : Prop :=
  (v = .slice none 0 0 ∧ l = []) ∨ ∃ g cap, v = .slice (some ⟨g, 0, none⟩) l.length cap ∧ g < w.heap.size ∧ ∀ i (h : i < l.length), w.cell? ⟨g, i, none⟩ = some (.int .i64 (l[i]))
theorem ReadsI.below {B : Nat} {w w' : World} {v : Value} {l : List Int} (h : ReadsI w v l) (hb : Below B w w') (hB : w.heap.size ≤ B) : ReadsI w' v l := by
  rcases h with h | ⟨g, cap, hv, hg, hc⟩
  · exact .inl h
  · exact .inr ⟨g, cap, hv, Nat.lt_of_lt_of_le hg hb.size, fun i hi => (hb.cell (p := ⟨g, i, none⟩) (by simp; omega)).trans (hc i hi)⟩
theorem readsI_own {w : World} {base : Nat} {v : Value} {l : List Int} (h : w.ownsRow base 3 1 v l.length (l.map (Value.int .i64))) : ReadsI w v l := by
  rcases h.2 with ⟨hv, h0⟩ | ⟨g, cap, cur, hv, hr⟩
  · exact .inl ⟨hv, List.eq_nil_of_length_eq_zero h0⟩
  · subst hv
    refine .inr ⟨g, cap, rfl, (h.lt g rfl).2, fun i hi => ?_⟩
    rw [h.cellAt i (by omega), List.getElem?_map, List.getElem?_eq_getElem hi]; rfl
theorem ReadsI.len {w : World} {v : Value} {l : List Int} (h : ReadsI w v l) : ∃ a cap, v = .slice a l.length cap := by
  rcases h with ⟨rfl, rfl⟩ | ⟨g, cap, rfl, _⟩
  · exact ⟨none, 0, rfl⟩
  · exact ⟨_, _, rfl⟩

theorem own_b {w w' : World} {base e size : Nat} {v : Value} {n : Nat} {xs : List Value} (h : w.ownsRow base e size v n xs) (hb : Below w.heap.size w w') : w'.ownsRow base e size v n xs := by
  refine h.kept (row := none) ⟨hb.os, hb.tape, hb.output, hb.size, fun k hk _ => hb.block k hk⟩ ?_
  cases h2 : v.ownBlock
  · exact .inl rfl
  · exact .inr (by simp)
theorem holds_gr {w w' : World} {b : Nat} {x : BitVec 256} {row : Option Nat} (h : Holds w b x) (hg : w.grownBy w' row) (hne : row = some b → False) : Holds w' b x := holds_grown h hg hne
theorem lists_pre3 (x : BitVec 256) : ∃ q : BitVec 256,
    Hid (∀ w, Calls Try.prog 41 #[sv x] w fun e w' => e = .returned (sv q) ∧ Below w.heap.size w w') ∧
    Hid (∀ w, Calls Try.prog 42 #[sv x] w fun e w' => e = .returned (sv q) ∧ Below w.heap.size w w') :=
  ⟨foldR x 26, (fun w => by have h := fold_any x w; rw [fold_same] at h; exact h), foldR_any x⟩
theorem lists_pre2 (x : BitVec 256) : ∃ SL : List (Int × Int), SL.length ≤ 256 ∧
    Hid (∀ w, Calls Try.prog 38 #[sv x] w fun e W' => ∃ v, e = .returned v ∧ W'.ownsRow (w.heap.size + 1) 52 2 v SL.length (spc SL) ∧ (SL = [] → v = .slice none 0 0) ∧ Below w.heap.size w W') ∧
    Hid (∀ w, Calls Try.prog 40 #[sv x] w fun e W' => ∃ v, e = .returned v ∧ W'.ownsRow (w.heap.size + 1) 52 2 v SL.length (spc SL) ∧ (SL = [] → v = .slice none 0 0) ∧ Below w.heap.size w W') :=
  ⟨spL (bys x), Nat.le_trans (spL_len _) (by rw [bys_len]; exact cnt_le x), spans_any x, spansR_any x⟩
theorem lists_pre (x : BitVec 256) : ∃ (s : ByteArray) (L : List Int), Hid (∀ w, Calls Try.prog 26 #[sv x] w fun e w' => e = .returned (.string s) ∧ Below w.heap.size w w') ∧
    Hid (∀ w, Calls Try.prog 37 #[sv x] w fun e w' => e = .returned (.string s) ∧ Below w.heap.size w w') ∧
    Hid (∀ (M : Nat) w, Calls Try.prog 36 #[sv x, .int .i64 M] w fun e w' => ∃ v, e = .returned (.tuple #[v, .bool true]) ∧ ReadsI w' v (L.take M) ∧ Below w.heap.size w w') ∧
    Hid (L = bys x) ∧ s.size = L.length ∧ L.length ≤ 256 ∧ Hid (∀ i (h : i < s.size) (h2 : i < L.length), ((s[i]'h).toNat : Int) = L[i]) := by
  have bd : ∀ b ∈ bys x, 0 ≤ b ∧ b < 256 := fun b h => bysTo_bd x 256 b h
  refine ⟨asText (bys x), bys x, bytesR_any x, bytes_any x, ?_, rfl, asText_size _, by rw [bys_len]; exact cnt_le x, fun i h h2 => asText_get (bys x) i h bd⟩
  intro M w
  refine (gone_any x M w).mono ?_
  rintro e w' ⟨v, he, ho, hb⟩
  have e2 : nums ((byf x 256).take M) = (bys x).take M := by
    have h : nums (byf x 256) = bys x := byf_val x 256 (Nat.le_refl _)
    rw [← h]; unfold nums; rw [List.map_take]
  rw [e2] at ho
  exact ⟨v, he, readsI_own ho, hb⟩

end Go.Proofs.Ytlcmlipldkpliaa
