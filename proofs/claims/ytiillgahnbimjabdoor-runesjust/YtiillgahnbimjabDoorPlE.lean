/- Plain: the pieces of a range, and their shapes. -/
import Derived.Test.YtiillgahnbimjabDoorPlD
namespace Go.Proofs.YtiillgahnbimjabDoor
open Go.RowKit

/-- Where a piece is cut at a size. -/
def seamAt (lo hi m : Int) : Option Int :=
  if lo / m = hi / m then none else if lo % m ≠ 0 then some ((lo / m + 1) * m) else if (hi + 1) % m ≠ 0 then some (hi / m * m) else none
def seamK (lo hi : Int) : Nat → Int → Option Int
  | 0, _ => none
  | k + 1, m => match seamAt lo hi (m * 64) with
    | some c => some c
    | none => seamK lo hi k (m * 64)
/-- Where a piece is cut. -/
def seam (lo hi : Int) : Option Int := seamK lo hi (szI lo - 1) 1
/-- A piece of one block. -/
def Blk (lo hi : Int) : Prop := lo ≤ hi ∧ ((0 ≤ lo ∧ hi ≤ 127) ∨ (128 ≤ lo ∧ hi ≤ 2047) ∨ (2048 ≤ lo ∧ hi ≤ 55295) ∨ (57344 ≤ lo ∧ hi ≤ 65535) ∨ (65536 ≤ lo ∧ hi ≤ 1114111))

theorem seamAt_bd {lo hi m c : Int} (hm : m = 64 ∨ m = 4096 ∨ m = 262144) (_h0 : 0 ≤ lo) (h1 : lo ≤ hi) (h : seamAt lo hi m = some c) : lo < c ∧ c ≤ hi := by
  unfold seamAt at h
  split at h
  · cases h
  · split at h
    · cases h; rcases hm with rfl | rfl | rfl <;> omega
    · split at h
      · cases h; rcases hm with rfl | rfl | rfl <;> omega
      · cases h
theorem seamK_bd {lo hi c : Int} (h0 : 0 ≤ lo) (h1 : lo ≤ hi) : ∀ (k : Nat) (m : Int), (k ≤ 3 ∧ m = 1 ∨ k ≤ 2 ∧ m = 64 ∨ k ≤ 1 ∧ m = 4096 ∨ k = 0) → seamK lo hi k m = some c → lo < c ∧ c ≤ hi
  | 0, _, _, h => by cases h
  | k + 1, m, hk, h => by
    rw [seamK] at h
    split at h
    · next c' hc => cases h; exact seamAt_bd (by omega) h0 h1 hc
    · exact seamK_bd h0 h1 k (m * 64) (by omega) h
theorem seam_bd {lo hi c : Int} (h0 : 0 ≤ lo) (h1 : lo ≤ hi) (h : seam lo hi = some c) : lo < c ∧ c ≤ hi :=
  seamK_bd h0 h1 _ _ (.inl ⟨by have := szI_bd lo; omega, rfl⟩) h
theorem seamK_none {lo hi : Int} {k : Nat} {m : Int} (h : seamAt lo hi (m * 64) = none) : seamK lo hi (k + 1) m = seamK lo hi k (m * 64) := by rw [seamK, h]
theorem seamK_some {lo hi c : Int} {k : Nat} {m : Int} (h : seamAt lo hi (m * 64) = some c) : seamK lo hi (k + 1) m = some c := by rw [seamK, h]
theorem Blk.cut {lo hi c : Int} (h : Blk lo hi) (hc : seam lo hi = some c) : Blk lo (c - 1) ∧ Blk c hi := by
  unfold Blk at *
  have := seam_bd (by omega) h.1 hc
  omega
theorem Blk.cpl {lo hi : Int} (h : Blk lo hi) : cp lo ∧ cp hi ∧ szI lo = szI hi ∧ 0 ≤ lo ∧ lo ≤ hi ∧ hi ≤ 1114111 := by
  unfold Blk at h; unfold cp szI
  refine ⟨by omega, by omega, ?_, by omega, by omega, by omega⟩
  repeat' split
  all_goals omega
/-- The pieces of a piece, rising. -/
def pcs : Nat → Int → Int → List (Int × Int)
  | 0, lo, hi => [(lo, hi)]
  | f + 1, lo, hi => match seam lo hi with
    | none => [(lo, hi)]
    | some c => pcs f lo (c - 1) ++ pcs f c hi
abbrev Shape := List (Int × Int)
/-- A piece's shape. -/
def shp (p : Int × Int) : Shape := (enL p.1).zip (enL p.2)
/-- The shapes of a piece of one block. -/
def shs (lo hi : Int) : List Shape := (pcs (hi - lo).toNat lo hi).map shp
theorem pcs_none {f : Nat} {lo hi : Int} (h : seam lo hi = none) : pcs f lo hi = [(lo, hi)] := by
  cases f with
  | zero => rfl
  | succ f => rw [pcs, h]
theorem pcs_some {f : Nat} {lo hi c : Int} (h : seam lo hi = some c) : pcs (f + 1) lo hi = pcs f lo (c - 1) ++ pcs f c hi := by rw [pcs, h]
/-- More fuel changes nothing. -/
theorem pcs_more : ∀ (f g : Nat) (lo hi : Int), 0 ≤ lo → lo ≤ hi → (hi - lo).toNat ≤ f → (hi - lo).toNat ≤ g → pcs f lo hi = pcs g lo hi
  | 0, g, lo, hi, h0, h1, hf, _ => by
    cases hs : seam lo hi with
    | none => rw [pcs_none hs, pcs_none hs]
    | some c => have := seam_bd h0 h1 hs; omega
  | f + 1, 0, lo, hi, h0, h1, _, hg => by
    cases hs : seam lo hi with
    | none => rw [pcs_none hs, pcs_none hs]
    | some c => have := seam_bd h0 h1 hs; omega
  | f + 1, g + 1, lo, hi, h0, h1, hf, hg => by
    cases hs : seam lo hi with
    | none => rw [pcs_none hs, pcs_none hs]
    | some c =>
      have := seam_bd h0 h1 hs
      rw [pcs_some hs, pcs_some hs, pcs_more f g lo (c - 1) h0 (by omega) (by omega) (by omega), pcs_more f g c hi (by omega) (by omega) (by omega) (by omega)]
theorem shs_none {lo hi : Int} (h : seam lo hi = none) : shs lo hi = [shp (lo, hi)] := by unfold shs; rw [pcs_none h]; rfl
theorem shs_some {lo hi c : Int} (h0 : 0 ≤ lo) (h1 : lo ≤ hi) (h : seam lo hi = some c) : shs lo hi = shs lo (c - 1) ++ shs c hi := by
  have hb := seam_bd h0 h1 h
  unfold shs
  rw [← List.map_append]
  obtain ⟨f, hf⟩ : ∃ f, (hi - lo).toNat = f + 1 := ⟨(hi - lo).toNat - 1, by omega⟩
  rw [hf, pcs_some h, pcs_more f _ lo (c - 1) h0 (by omega) (by omega) (Nat.le_refl _), pcs_more f _ c hi (by omega) (by omega) (by omega) (Nat.le_refl _)]
theorem pcs_len : ∀ (f : Nat) (lo hi : Int), 0 ≤ lo → lo ≤ hi → 1 ≤ (pcs f lo hi).length ∧ ((pcs f lo hi).length : Int) ≤ hi - lo + 1
  | 0, lo, hi, _, h1 => by
    constructor
    · show 1 ≤ 1; omega
    · show ((1 : Nat) : Int) ≤ _; omega
  | f + 1, lo, hi, h0, h1 => by
    cases hs : seam lo hi with
    | none =>
      rw [pcs_none hs]
      constructor
      · show 1 ≤ 1; omega
      · show ((1 : Nat) : Int) ≤ _; omega
    | some c =>
      have := seam_bd h0 h1 hs
      have a := pcs_len f lo (c - 1) h0 (by omega)
      have b := pcs_len f c hi (by omega) (by omega)
      rw [pcs_some hs, List.length_append]
      omega
theorem shs_len {lo hi : Int} (h0 : 0 ≤ lo) (h1 : lo ≤ hi) : 1 ≤ (shs lo hi).length ∧ ((shs lo hi).length : Int) ≤ hi - lo + 1 := by
  unfold shs; rw [List.length_map]; exact pcs_len _ lo hi h0 h1
theorem shp_len {lo hi : Int} (h : Blk lo hi) : (shp (lo, hi)).length = szI lo := by
  obtain ⟨h1, h2, h3, _⟩ := h.cpl
  unfold shp
  rw [List.length_zip, enL_len h1, enL_len h2, ← h3, Nat.min_self]
/-- The blocks. -/
def blks : List (Int × Int) := [(0, 127), (128, 2047), (2048, 55295), (57344, 65535), (65536, 1114111)]
/-- What a block gives of a range. -/
def ofBlk (lo hi : Int) (b : Int × Int) : List Shape := if max b.1 lo ≤ min b.2 hi then shs (max b.1 lo) (min b.2 hi) else []
/-- The shapes of a range, from the first blocks. -/
def shTo (lo hi : Int) (k : Nat) : List Shape := (blks.take k).flatMap (ofBlk lo hi)
def shAll (lo hi : Int) : List Shape := blks.flatMap (ofBlk lo hi)
theorem shTo_all (lo hi : Int) : shTo lo hi 5 = shAll lo hi := rfl
theorem shTo_succ (lo hi : Int) (k : Nat) (b : Int × Int) (h : blks[k]? = some b) : shTo lo hi (k + 1) = shTo lo hi k ++ ofBlk lo hi b := by
  unfold shTo
  rw [List.take_add_one, h, List.flatMap_append]
  simp
theorem blk_get {k : Nat} {b : Int × Int} (h : blks[k]? = some b) : 0 ≤ b.1 ∧ b.1 ≤ b.2 ∧ b.2 ≤ 1114111 ∧ ∀ lo hi, max b.1 lo ≤ min b.2 hi → Blk (max b.1 lo) (min b.2 hi) := by
  unfold Blk
  match k, h with
  | 0, h => cases h; exact ⟨by decide, by decide, by decide, fun lo hi _ => by omega⟩
  | 1, h => cases h; exact ⟨by decide, by decide, by decide, fun lo hi _ => by omega⟩
  | 2, h => cases h; exact ⟨by decide, by decide, by decide, fun lo hi _ => by omega⟩
  | 3, h => cases h; exact ⟨by decide, by decide, by decide, fun lo hi _ => by omega⟩
  | 4, h => cases h; exact ⟨by decide, by decide, by decide, fun lo hi _ => by omega⟩
theorem ofBlk_len (lo hi : Int) (b : Int × Int) (h0 : 0 ≤ b.1) (h1 : b.1 ≤ b.2) : ((ofBlk lo hi b).length : Int) ≤ b.2 - b.1 + 1 := by
  unfold ofBlk
  split
  · next h => have := shs_len (lo := max b.1 lo) (hi := min b.2 hi) (by omega) h; omega
  · show ((0 : Nat) : Int) ≤ _; omega
theorem flat_len (lo hi : Int) (l : List (Int × Int)) (h : ∀ b ∈ l, 0 ≤ b.1 ∧ b.1 ≤ b.2) : ((l.flatMap (ofBlk lo hi)).length : Int) ≤ (l.map fun b => b.2 - b.1 + 1).sum := by
  induction l with
  | nil => simp
  | cons b l ih =>
    rw [List.flatMap_cons, List.length_append, List.map_cons, List.sum_cons]
    have h1 := h b (List.mem_cons_self)
    have h2 := ofBlk_len lo hi b h1.1 h1.2
    have h3 := ih fun c hc => h c (List.mem_cons_of_mem _ hc)
    omega
theorem blks_ok : ∀ b ∈ blks, 0 ≤ b.1 ∧ b.1 ≤ b.2 := by decide
theorem shTo_bd (lo hi : Int) (k : Nat) : ((shTo lo hi k).length : Int) ≤ ((blks.take k).map fun b => b.2 - b.1 + 1).sum :=
  flat_len lo hi (blks.take k) fun b hb => blks_ok b (List.mem_of_mem_take hb)
theorem shTo_room (lo hi : Int) (k : Nat) (b : Int × Int) (h : blks[k]? = some b) : ((shTo lo hi k).length : Int) + (b.2 - b.1 + 1) ≤ 1114112 := by
  have h1 := shTo_bd lo hi k
  match k, h, h1 with
  | 0, h, h1 => cases h; have e : ((blks.take 0).map fun b => b.2 - b.1 + 1).sum = 0 := by decide
                rw [e] at h1; dsimp only; omega
  | 1, h, h1 => cases h; have e : ((blks.take 1).map fun b => b.2 - b.1 + 1).sum = 128 := by decide
                rw [e] at h1; dsimp only; omega
  | 2, h, h1 => cases h; have e : ((blks.take 2).map fun b => b.2 - b.1 + 1).sum = 2048 := by decide
                rw [e] at h1; dsimp only; omega
  | 3, h, h1 => cases h; have e : ((blks.take 3).map fun b => b.2 - b.1 + 1).sum = 55296 := by decide
                rw [e] at h1; dsimp only; omega
  | 4, h, h1 => cases h; have e : ((blks.take 4).map fun b => b.2 - b.1 + 1).sum = 63488 := by decide
                rw [e] at h1; dsimp only; omega
theorem shTo_len (lo hi : Int) (k : Nat) : (shTo lo hi k).length ≤ 1114112 := by
  have h1 := shTo_bd lo hi k
  have h2 : ((blks.take k).map fun b => b.2 - b.1 + 1).sum ≤ 1114112 := by
    match k with
    | 0 => decide
    | 1 => decide
    | 2 => decide
    | 3 => decide
    | 4 => decide
    | k + 5 => rw [List.take_of_length_le (by show 5 ≤ k + 5; omega)]; decide
  omega
end Go.Proofs.YtiillgahnbimjabDoor
