/- DERIVED. Plain: just one shape. -/
import Derived.Test.YtiillgahnbimjabDoorJuA
import Derived.Test.YtiillgahnbimjabDoorPlH
namespace Go.Proofs.YtiillgahnbimjabDoor

theorem cnt_one {lo hi r : Int} (h : Blk lo hi) (hs : seam lo hi = none) (hr : cp r) : ([(lo, hi)].map shp).countP (inL (enL r)) = if lo ≤ r ∧ r ≤ hi then 1 else 0 := by
  have e := leaf_in h hs hr
  rw [List.map_cons, List.map_nil, List.countP_cons, List.countP_nil]
  by_cases q : lo ≤ r ∧ r ≤ hi
  · rw [if_pos q, if_pos (e.2 q)]
  · rw [if_neg q, if_neg (fun h => q (e.1 h))]
theorem cnt_pcs {r : Int} (hr : cp r) : ∀ (f : Nat) (lo hi : Int), Blk lo hi → (hi - lo).toNat ≤ f → ((pcs f lo hi).map shp).countP (inL (enL r)) = if lo ≤ r ∧ r ≤ hi then 1 else 0
  | 0, lo, hi, h, hf => by
    have hs : seam lo hi = none := by
      cases hs : seam lo hi with
      | none => rfl
      | some c => have := seam_bd h.cpl.2.2.2.1 h.1 hs; omega
    rw [pcs_none hs]
    exact cnt_one h hs hr
  | f + 1, lo, hi, h, hf => by
    cases hs : seam lo hi with
    | none => rw [pcs_none hs]; exact cnt_one h hs hr
    | some c =>
      have hb := seam_bd h.cpl.2.2.2.1 h.1 hs
      obtain ⟨b1, b2⟩ := h.cut hs
      rw [pcs_some hs, List.map_append, List.countP_append, cnt_pcs hr f lo (c - 1) b1 (by omega), cnt_pcs hr f c hi b2 (by omega)]
      by_cases q : r < c
      · rw [if_neg (show ¬ (c ≤ r ∧ r ≤ hi) by omega)]
        by_cases q2 : lo ≤ r
        · rw [if_pos ⟨q2, by omega⟩, if_pos ⟨q2, by omega⟩]
        · rw [if_neg (by omega), if_neg (by omega)]
      · rw [if_neg (show ¬ (lo ≤ r ∧ r ≤ c - 1) by omega)]
        by_cases q2 : r ≤ hi
        · rw [if_pos ⟨by omega, q2⟩, if_pos ⟨by omega, q2⟩]
        · rw [if_neg (by omega), if_neg (by omega)]
theorem cnt_blk {lo hi r : Int} (hr : cp r) {k : Nat} {b : Int × Int} (hb : blks[k]? = some b) : (ofBlk lo hi b).countP (inL (enL r)) = if (b.1 ≤ r ∧ r ≤ b.2) ∧ (lo ≤ r ∧ r ≤ hi) then 1 else 0 := by
  unfold ofBlk
  by_cases q : max b.1 lo ≤ min b.2 hi
  · rw [if_pos q]
    unfold shs
    rw [cnt_pcs hr _ _ _ ((blk_get hb).2.2.2 lo hi q) (Nat.le_refl _)]
    by_cases q2 : (b.1 ≤ r ∧ r ≤ b.2) ∧ (lo ≤ r ∧ r ≤ hi)
    · rw [if_pos q2, if_pos (by omega)]
    · rw [if_neg q2, if_neg (by omega)]
  · rw [if_neg q, List.countP_nil, if_neg (by omega)]
theorem cnt_all (lo hi : Int) {r : Int} (hr : cp r) : (shAll lo hi).countP (inL (enL r)) = if lo ≤ r ∧ r ≤ hi then 1 else 0 := by
  have e : shAll lo hi = ofBlk lo hi (0, 127) ++ (ofBlk lo hi (128, 2047) ++ (ofBlk lo hi (2048, 55295) ++ (ofBlk lo hi (57344, 65535) ++ (ofBlk lo hi (65536, 1114111) ++ [])))) := rfl
  rw [e, List.countP_append, List.countP_append, List.countP_append, List.countP_append, List.countP_append, List.countP_nil, cnt_blk hr (k := 0) rfl, cnt_blk hr (k := 1) rfl, cnt_blk hr (k := 2) rfl, cnt_blk hr (k := 3) rfl, cnt_blk hr (k := 4) rfl]
  dsimp only
  unfold cp at hr
  by_cases q : lo ≤ r ∧ r ≤ hi
  · simp only [q, and_true]
    have hc : (r ≤ 127) ∨ (128 ≤ r ∧ r ≤ 2047) ∨ (2048 ≤ r ∧ r ≤ 55295) ∨ (57344 ≤ r ∧ r ≤ 65535) ∨ 65536 ≤ r := by omega
    rcases hc with c | c | c | c | c
    · rw [if_pos (show 0 ≤ r ∧ r ≤ 127 by omega), if_neg (by omega), if_neg (by omega), if_neg (by omega), if_neg (by omega)]; rfl
    · rw [if_neg (show ¬ (0 ≤ r ∧ r ≤ 127) by omega), if_pos (by omega), if_neg (by omega), if_neg (by omega), if_neg (by omega)]; rfl
    · rw [if_neg (show ¬ (0 ≤ r ∧ r ≤ 127) by omega), if_neg (by omega), if_pos (by omega), if_neg (by omega), if_neg (by omega)]; rfl
    · rw [if_neg (show ¬ (0 ≤ r ∧ r ≤ 127) by omega), if_neg (by omega), if_neg (by omega), if_pos (by omega), if_neg (by omega)]; rfl
    · rw [if_neg (show ¬ (0 ≤ r ∧ r ≤ 127) by omega), if_neg (by omega), if_neg (by omega), if_neg (by omega), if_pos (by omega)]; rfl
  · simp only [q, and_false, if_false]

theorem pcs_in : ∀ (f : Nat) (lo hi : Int), Blk lo hi → ∀ p ∈ pcs f lo hi, lo ≤ p.1 ∧ p.2 ≤ hi
  | 0, lo, hi, _, p, hp => by
    rw [pcs] at hp
    cases List.mem_singleton.1 hp
    exact ⟨Int.le_refl _, Int.le_refl _⟩
  | f + 1, lo, hi, h, p, hp => by
    cases hs : seam lo hi with
    | none =>
      rw [pcs_none hs] at hp
      cases List.mem_singleton.1 hp
      exact ⟨Int.le_refl _, Int.le_refl _⟩
    | some c =>
      have hb := seam_bd h.cpl.2.2.2.1 h.1 hs
      obtain ⟨b1, b2⟩ := h.cut hs
      rw [pcs_some hs] at hp
      rcases List.mem_append.1 hp with q | q
      · have := pcs_in f lo (c - 1) b1 p q; omega
      · have := pcs_in f c hi b2 p q; omega
/-- Bytes within a shape of a range are the encoding of a code point in the range. -/
theorem back_all {lo hi : Int} {s : Shape} {l : List Int} (hs : s ∈ shAll lo hi) (hl : inL l s = true) : ∃ r, cp r ∧ lo ≤ r ∧ r ≤ hi ∧ l = enL r := by
  unfold shAll at hs
  obtain ⟨b, hb, h2⟩ := List.mem_flatMap.1 hs
  unfold ofBlk at h2
  obtain ⟨k, hk, rfl⟩ := List.getElem_of_mem hb
  split at h2
  · next q =>
    have hB := (blk_get (List.getElem?_eq_getElem hk)).2.2.2 lo hi q
    obtain ⟨p, hp, rfl⟩ := List.mem_map.1 h2
    obtain ⟨h3, h4⟩ := pcs_leaf _ _ _ hB (Nat.le_refl _) p hp
    obtain ⟨h5, h6⟩ := pcs_in _ _ _ hB p hp
    obtain ⟨r, h7, h8, h9⟩ := leaf_back h3 h4 hl
    refine ⟨r, ?_, by omega, by omega, h9⟩
    unfold Blk at h3
    unfold cp
    omega
  · cases h2
theorem dcd_enL {r : Int} (h : cp r) : dcd (asText (enL r)) 0 = some (r, szI r) := by
  have e := dcd_text (pre := []) (post := []) h (by rw [List.nil_append, List.append_nil]; exact enL_by r)
  rw [List.nil_append, List.append_nil] at e
  exact e
end Go.Proofs.YtiillgahnbimjabDoor
