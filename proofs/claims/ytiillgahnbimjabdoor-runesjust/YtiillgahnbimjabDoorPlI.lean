/- Plain: pieces that are not cut any more; their spans are in order. -/
import Derived.Test.YtiillgahnbimjabDoorPlF
namespace Go.Proofs.YtiillgahnbimjabDoor
open Go.RowKit

theorem pcs_leaf : ∀ (f : Nat) (lo hi : Int), Blk lo hi → (hi - lo).toNat ≤ f → ∀ p ∈ pcs f lo hi, Blk p.1 p.2 ∧ seam p.1 p.2 = none
  | 0, lo, hi, h, hf, p, hp => by
    have hs : seam lo hi = none := by
      cases hs : seam lo hi with
      | none => rfl
      | some c => have := seam_bd h.cpl.2.2.2.1 h.cpl.2.2.2.2.1 hs; omega
    rw [pcs_none hs, List.mem_singleton] at hp
    rw [hp]; exact ⟨h, hs⟩
  | f + 1, lo, hi, h, hf, p, hp => by
    cases hs : seam lo hi with
    | none =>
      rw [pcs_none hs, List.mem_singleton] at hp
      rw [hp]; exact ⟨h, hs⟩
    | some c =>
      have := seam_bd h.cpl.2.2.2.1 h.cpl.2.2.2.2.1 hs
      rw [pcs_some hs] at hp
      rcases List.mem_append.1 hp with hp | hp
      · exact pcs_leaf f lo (c - 1) (h.cut hs).1 (by omega) p hp
      · exact pcs_leaf f c hi (h.cut hs).2 (by omega) p hp
theorem seamAt_none {lo hi m : Int} (h : seamAt lo hi m = none) : lo / m = hi / m ∨ (lo % m = 0 ∧ (hi + 1) % m = 0) := by
  unfold seamAt at h
  split at h
  · next q => exact .inl q
  · split at h
    · cases h
    · split at h
      · cases h
      · next q1 q2 q3 => exact .inr ⟨by omega, by omega⟩
/-- What a piece is that is not cut any more. -/
theorem leaf_at {lo hi : Int} (h : seam lo hi = none) : (2 ≤ szI lo → lo / 64 = hi / 64 ∨ (lo % 64 = 0 ∧ (hi + 1) % 64 = 0)) ∧ (3 ≤ szI lo → lo / 4096 = hi / 4096 ∨ (lo % 4096 = 0 ∧ (hi + 1) % 4096 = 0)) ∧ (4 ≤ szI lo → lo / 262144 = hi / 262144 ∨ (lo % 262144 = 0 ∧ (hi + 1) % 262144 = 0)) := by
  unfold seam at h
  have hb := szI_bd lo
  have key : ∀ (k : Nat) (m : Int), seamK lo hi (k + 1) m = none → seamAt lo hi (m * 64) = none ∧ seamK lo hi k (m * 64) = none := fun k m hk => by
    rw [seamK] at hk
    split at hk
    · cases hk
    · next q => exact ⟨q, hk⟩
  refine ⟨fun h2 => ?_, fun h3 => ?_, fun h4 => ?_⟩
  · rw [show szI lo - 1 = (szI lo - 2) + 1 from by omega] at h
    exact seamAt_none (key _ _ h).1
  · rw [show szI lo - 1 = (szI lo - 3) + 1 + 1 from by omega] at h
    exact seamAt_none (key _ _ (key _ _ h).2).1
  · rw [show szI lo - 1 = (szI lo - 4) + 1 + 1 + 1 from by omega] at h
    exact seamAt_none (key _ _ (key _ _ (key _ _ h).2).2).1
/-- The spans are in order. -/
def ordS (s : Shape) : Prop := ∀ p ∈ s, 0 ≤ p.1 ∧ p.1 ≤ p.2 ∧ p.2 ≤ 255
set_option maxRecDepth 100000 in
theorem leaf_ord {lo hi : Int} (h : Blk lo hi) (hs : seam lo hi = none) : ordS (shp (lo, hi)) := by
  obtain ⟨h1, h2, h3, h4, h5, h6⟩ := h.cpl
  obtain ⟨k2, k3, k4⟩ := leaf_at hs
  unfold ordS shp
  unfold szI at *
  unfold Blk at h
  intro p hp
  rcases cp_cases h1 with q | q | q | q
  · dsimp only at hp
    rw [enL_one q.1 q.2, enL_one (by omega) (by omega)] at hp
    simp only [List.zip_cons_cons, List.zip_nil_right, List.mem_cons, List.not_mem_nil, or_false] at hp
    rw [hp]; dsimp only; omega
  · rw [if_neg (by omega), if_pos (by omega)] at k2
    have k2 := k2 (by omega)
    dsimp only at hp
    rw [enL_two q.1 q.2, enL_two (by omega) (by omega)] at hp
    simp only [List.zip_cons_cons, List.zip_nil_right, List.mem_cons, List.not_mem_nil, or_false] at hp
    rcases hp with hp | hp
    · rw [hp]; dsimp only; omega
    · rw [hp]; dsimp only; omega
  · rw [if_neg (by omega), if_neg (by omega), if_pos (by omega)] at k2 k3
    have k2 := k2 (by omega)
    have k3 := k3 (by omega)
    dsimp only at hp
    rw [enL_three q, enL_three (by omega)] at hp
    simp only [List.zip_cons_cons, List.zip_nil_right, List.mem_cons, List.not_mem_nil, or_false] at hp
    rcases hp with hp | hp | hp
    · rw [hp]; dsimp only; omega
    · rw [hp]; dsimp only; omega
    · rw [hp]; dsimp only; omega
  · rw [if_neg (by omega), if_neg (by omega), if_neg (by omega)] at k2 k3 k4
    have k2 := k2 (by omega)
    have k3 := k3 (by omega)
    have k4 := k4 (by omega)
    dsimp only at hp
    rw [enL_four q.1 q.2, enL_four (by omega) (by omega)] at hp
    simp only [List.zip_cons_cons, List.zip_nil_right, List.mem_cons, List.not_mem_nil, or_false] at hp
    rcases hp with hp | hp | hp | hp
    · rw [hp]; dsimp only; omega
    · rw [hp]; dsimp only; omega
    · rw [hp]; dsimp only; omega
    · rw [hp]; dsimp only; omega
theorem shs_ord {lo hi : Int} (h : Blk lo hi) : ∀ s ∈ shs lo hi, ordS s ∧ 1 ≤ s.length ∧ s.length ≤ 4 := fun s hs => by
  obtain ⟨p, hp, rfl⟩ := List.mem_map.1 hs
  obtain ⟨h1, h2⟩ := pcs_leaf _ _ _ h (Nat.le_refl _) p hp
  have hl := shp_len h1
  have := szI_bd p.1
  exact ⟨leaf_ord h1 h2, by rw [show p = (p.1, p.2) from rfl, hl]; omega, by rw [show p = (p.1, p.2) from rfl, hl]; omega⟩
theorem shAll_ord (lo hi : Int) : ∀ s ∈ shAll lo hi, ordS s ∧ 1 ≤ s.length ∧ s.length ≤ 4 := fun s hs => by
  unfold shAll at hs
  obtain ⟨b, hb, h2⟩ := List.mem_flatMap.1 hs
  unfold ofBlk at h2
  obtain ⟨k, hk, rfl⟩ := List.getElem_of_mem hb
  split at h2
  · next q => exact shs_ord ((blk_get (List.getElem?_eq_getElem hk)).2.2.2 lo hi q) s h2
  · cases h2
end Go.Proofs.YtiillgahnbimjabDoor
