/- DERIVED. Plain: which bytes are within a shape; each code point of a range is within just one of its shapes. -/
import Derived.Test.YtiillgahnbimjabDoorPlI
namespace Go.Proofs.YtiillgahnbimjabDoor

/-- Bytes within a shape. -/
def inL : List Int → Shape → Bool
  | [], [] => true
  | b :: l, p :: s => decide (p.1 ≤ b) && (decide (b ≤ p.2) && inL l s)
  | _ :: _, [] => false
  | [], _ :: _ => false
theorem inL_cons (b : Int) (l : List Int) (p : Int × Int) (s : Shape) : inL (b :: l) (p :: s) = true ↔ (p.1 ≤ b ∧ b ≤ p.2) ∧ inL l s = true := by
  rw [inL, Bool.and_eq_true, Bool.and_eq_true, decide_eq_true_iff, decide_eq_true_iff, and_assoc]
theorem inL_nil : inL [] [] = true := rfl
theorem inL_len : ∀ (l : List Int) (s : Shape), inL l s = true → l.length = s.length
  | [], [], _ => rfl
  | b :: l, p :: s, h => by rw [List.length_cons, List.length_cons, inL_len l s ((inL_cons b l p s).1 h).2]
  | _ :: _, [], h => by cases h
  | [], _ :: _, h => by cases h

/-- Two digits. -/
theorem lex {lo hi : Int} (r : Int) (k : lo / 64 = hi / 64 ∨ (lo % 64 = 0 ∧ (hi + 1) % 64 = 0)) : (lo ≤ r ∧ r ≤ hi) ↔ (lo / 64 ≤ r / 64 ∧ r / 64 ≤ hi / 64) ∧ (lo % 64 ≤ r % 64 ∧ r % 64 ≤ hi % 64) := by
  rcases k with k | ⟨k, k'⟩
  · constructor
    · intro ⟨a, b⟩
      refine ⟨⟨?_, ?_⟩, ?_, ?_⟩ <;> omega
    · intro ⟨⟨a, b⟩, c, d⟩
      constructor <;> omega
  · constructor
    · intro ⟨a, b⟩
      refine ⟨⟨?_, ?_⟩, ?_, ?_⟩ <;> omega
    · intro ⟨⟨a, b⟩, c, d⟩
      constructor <;> omega
theorem dig {lo hi : Int} (k : lo / 4096 = hi / 4096 ∨ (lo % 4096 = 0 ∧ (hi + 1) % 4096 = 0)) : (lo / 64) / 64 = (hi / 64) / 64 ∨ ((lo / 64) % 64 = 0 ∧ (hi / 64 + 1) % 64 = 0) := by
  rcases k with k | ⟨k, k'⟩
  · exact .inl (by omega)
  · exact .inr ⟨by omega, by omega⟩
theorem dig2 {lo hi : Int} (k : lo / 262144 = hi / 262144 ∨ (lo % 262144 = 0 ∧ (hi + 1) % 262144 = 0)) : (lo / 4096) / 64 = (hi / 4096) / 64 ∨ ((lo / 4096) % 64 = 0 ∧ (hi / 4096 + 1) % 64 = 0) := by
  rcases k with k | ⟨k, k'⟩
  · exact .inl (by omega)
  · exact .inr ⟨by omega, by omega⟩
theorem dv1 (r : Int) : r / 64 / 64 = r / 4096 := by omega
theorem dv2 (r : Int) : r / 4096 / 64 = r / 262144 := by omega

set_option maxRecDepth 100000 in
set_option maxHeartbeats 2000000 in
theorem leaf_in {lo hi r : Int} (h : Blk lo hi) (hs : seam lo hi = none) (hr : cp r) : inL (enL r) (shp (lo, hi)) = true ↔ lo ≤ r ∧ r ≤ hi := by
  obtain ⟨h1, h2, h3, h4, h5, h6⟩ := h.cpl
  by_cases hz : szI r = szI lo
  · obtain ⟨k2, k3, k4⟩ := leaf_at hs
    unfold shp
    dsimp only
    unfold szI at *
    unfold Blk at h
    rcases cp_cases h1 with q | q | q | q
    · rw [if_pos q.2] at hz
      have hr1 : r ≤ 127 := by
        by_cases c : r ≤ 127
        · exact c
        · rw [if_neg c] at hz; split at hz
          · omega
          · split at hz <;> omega
      have hr0 : 0 ≤ r := hr.1
      rw [enL_one q.1 q.2, enL_one (r := hi) (by omega) (by omega), enL_one hr0 hr1]
      simp only [List.zip_cons_cons, List.zip_nil_right, inL_cons, inL_nil, and_true]
    · rw [if_neg (by omega), if_pos (by omega)] at k2
      have k2 := k2 (by omega)
      have hr1 : 128 ≤ r ∧ r ≤ 2047 := by
        rw [if_neg (show ¬ lo ≤ 127 by omega), if_pos (show lo ≤ 2047 by omega)] at hz
        by_cases c : r ≤ 127
        · rw [if_pos c] at hz; omega
        · rw [if_neg c] at hz
          by_cases c2 : r ≤ 2047
          · omega
          · rw [if_neg c2] at hz; split at hz <;> omega
      rw [enL_two q.1 q.2, enL_two (r := hi) (by omega) (by omega), enL_two hr1.1 hr1.2]
      simp only [List.zip_cons_cons, List.zip_nil_right, inL_cons, inL_nil, and_true, Int.add_le_add_iff_left]
      rw [lex r k2]
    · rw [if_neg (by omega), if_neg (by omega), if_pos (by omega)] at k2 k3
      have k2 := k2 (by omega)
      have k3 := k3 (by omega)
      have hr1 : (2048 ≤ r ∧ r < 55296) ∨ (57343 < r ∧ r ≤ 65535) := by
        unfold cp at hr
        rw [if_neg (show ¬ lo ≤ 127 by omega), if_neg (show ¬ lo ≤ 2047 by omega), if_pos (show lo ≤ 65535 by omega)] at hz
        by_cases c : r ≤ 127
        · rw [if_pos c] at hz; omega
        · rw [if_neg c] at hz
          by_cases c2 : r ≤ 2047
          · rw [if_pos c2] at hz; omega
          · rw [if_neg c2] at hz; split at hz <;> omega
      rw [enL_three q, enL_three (r := hi) (by omega), enL_three hr1]
      simp only [List.zip_cons_cons, List.zip_nil_right, inL_cons, inL_nil, and_true, Int.add_le_add_iff_left]
      rw [lex r k2, lex (r / 64) (dig k3), dv1, dv1, dv1]
      simp only [and_assoc]
    · rw [if_neg (by omega), if_neg (by omega), if_neg (by omega)] at k2 k3 k4
      have k2 := k2 (by omega)
      have k3 := k3 (by omega)
      have k4 := k4 (by omega)
      have hr1 : 65536 ≤ r ∧ r ≤ 1114111 := by
        unfold cp at hr
        rw [if_neg (show ¬ lo ≤ 127 by omega), if_neg (show ¬ lo ≤ 2047 by omega), if_neg (show ¬ lo ≤ 65535 by omega)] at hz
        by_cases c : r ≤ 127
        · rw [if_pos c] at hz; omega
        · rw [if_neg c] at hz
          by_cases c2 : r ≤ 2047
          · rw [if_pos c2] at hz; omega
          · rw [if_neg c2] at hz; split at hz <;> omega
      rw [enL_four q.1 q.2, enL_four (r := hi) (by omega) (by omega), enL_four hr1.1 hr1.2]
      simp only [List.zip_cons_cons, List.zip_nil_right, inL_cons, inL_nil, and_true, Int.add_le_add_iff_left]
      rw [lex r k2, lex (r / 64) (dig k3), dv1, dv1, dv1, lex (r / 4096) (dig2 k4), dv2, dv2, dv2]
      simp only [and_assoc]
  · constructor
    · intro e
      have hl := inL_len _ _ e
      rw [enL_len hr, shp_len h] at hl
      exact absurd hl hz
    · intro ⟨a, b⟩
      exfalso
      apply hz
      unfold Blk at h
      unfold szI
      repeat' split
      all_goals omega

theorem inL_inv {l : List Int} {p : Int × Int} {s : Shape} (h : inL l (p :: s) = true) : ∃ b l', l = b :: l' ∧ (p.1 ≤ b ∧ b ≤ p.2) ∧ inL l' s = true := by
  cases l with
  | nil => cases h
  | cons b l => exact ⟨b, l, rfl, (inL_cons b l p s).1 h⟩
theorem inL_inv0 {l : List Int} (h : inL l [] = true) : l = [] := by
  cases l with
  | nil => rfl
  | cons b l => cases h
theorem dgt (u c : Int) (h0 : 0 ≤ c) (h1 : c < 64) : (u * 64 + c) / 64 = u ∧ (u * 64 + c) % 64 = c := ⟨by omega, by omega⟩

theorem lexI {lo hi u c : Int} (h0 : 0 ≤ c) (h1 : c < 64) (k : lo / 64 = hi / 64 ∨ (lo % 64 = 0 ∧ (hi + 1) % 64 = 0)) (hu : lo / 64 ≤ u ∧ u ≤ hi / 64) (hc : lo % 64 ≤ c ∧ c ≤ hi % 64) : lo ≤ u * 64 + c ∧ u * 64 + c ≤ hi :=
  (lex _ k).2 (by rw [(dgt u c h0 h1).1, (dgt u c h0 h1).2]; exact ⟨hu, hc⟩)
theorem bnd {x y d : Int} (h : 128 + x % 64 ≤ d ∧ d ≤ 128 + y % 64) : 0 ≤ d - 128 ∧ d - 128 < 64 ∧ (x % 64 ≤ d - 128 ∧ d - 128 ≤ y % 64) := by omega
theorem hdl {x y d k : Int} (h : k + x ≤ d ∧ d ≤ k + y) : x ≤ d - k ∧ d - k ≤ y := by omega
theorem adds (k d : Int) : k + (d - k) = d := by omega
theorem leaf_two {lo hi : Int} {l : List Int} (h1 : 128 ≤ lo) (h2 : hi ≤ 2047) (h3 : lo ≤ hi) (k2 : lo / 64 = hi / 64 ∨ (lo % 64 = 0 ∧ (hi + 1) % 64 = 0)) (hin : inL l ((enL lo).zip (enL hi)) = true) : ∃ r, lo ≤ r ∧ r ≤ hi ∧ l = enL r := by
  have side : ∀ r, lo ≤ r → r ≤ hi → 128 ≤ r ∧ r ≤ 2047 := fun r a b => ⟨by omega, by omega⟩
  rw [enL_two (side lo (Int.le_refl _) h3).1 (side lo (Int.le_refl _) h3).2, enL_two (side hi h3 (Int.le_refl _)).1 (side hi h3 (Int.le_refl _)).2] at hin
  simp only [List.zip_cons_cons, List.zip_nil_right] at hin
  obtain ⟨b, l1, rfl, hb, hin⟩ := inL_inv hin
  obtain ⟨c, l2, rfl, hc, hin⟩ := inL_inv hin
  rw [inL_inv0 hin]
  obtain ⟨c0, c1, c2⟩ := bnd hc
  have hr := lexI c0 c1 k2 (hdl hb) c2
  obtain ⟨d1, d2⟩ := dgt (b - 192) (c - 128) c0 c1
  refine ⟨_, hr.1, hr.2, ?_⟩
  rw [enL_two (side _ hr.1 hr.2).1 (side _ hr.1 hr.2).2, d1, d2, adds, adds]
theorem leaf_three {lo hi : Int} {l : List Int} (h1 : (2048 ≤ lo ∧ hi ≤ 55295) ∨ (57344 ≤ lo ∧ hi ≤ 65535)) (h3 : lo ≤ hi) (k2 : lo / 64 = hi / 64 ∨ (lo % 64 = 0 ∧ (hi + 1) % 64 = 0)) (k3 : lo / 4096 = hi / 4096 ∨ (lo % 4096 = 0 ∧ (hi + 1) % 4096 = 0)) (hin : inL l ((enL lo).zip (enL hi)) = true) : ∃ r, lo ≤ r ∧ r ≤ hi ∧ l = enL r := by
  have side : ∀ r, lo ≤ r → r ≤ hi → (2048 ≤ r ∧ r < 55296) ∨ (57343 < r ∧ r ≤ 65535) := fun r a b => by clear k2 k3; omega
  rw [enL_three (side lo (Int.le_refl _) h3), enL_three (side hi h3 (Int.le_refl _))] at hin
  simp only [List.zip_cons_cons, List.zip_nil_right] at hin
  obtain ⟨b, l1, rfl, hb, hin⟩ := inL_inv hin
  obtain ⟨c, l2, rfl, hc, hin⟩ := inL_inv hin
  obtain ⟨d, l3, rfl, hd, hin⟩ := inL_inv hin
  rw [inL_inv0 hin]
  obtain ⟨c0, c1, c2⟩ := bnd hc
  obtain ⟨e0, e1, e2⟩ := bnd hd
  have hb2 := hdl hb
  rw [← dv1, ← dv1] at hb2
  have hr := lexI e0 e1 k2 (lexI c0 c1 (dig k3) hb2 c2) e2
  obtain ⟨d1, d2⟩ := dgt ((b - 224) * 64 + (c - 128)) (d - 128) e0 e1
  obtain ⟨d3, d4⟩ := dgt (b - 224) (c - 128) c0 c1
  refine ⟨_, hr.1, hr.2, ?_⟩
  rw [enL_three (side _ hr.1 hr.2), ← dv1, d1, d2, d3, d4, adds, adds, adds]
theorem leaf_four {lo hi : Int} {l : List Int} (h1 : 65536 ≤ lo) (h2 : hi ≤ 1114111) (h3 : lo ≤ hi) (k2 : lo / 64 = hi / 64 ∨ (lo % 64 = 0 ∧ (hi + 1) % 64 = 0)) (k3 : lo / 4096 = hi / 4096 ∨ (lo % 4096 = 0 ∧ (hi + 1) % 4096 = 0)) (k4 : lo / 262144 = hi / 262144 ∨ (lo % 262144 = 0 ∧ (hi + 1) % 262144 = 0)) (hin : inL l ((enL lo).zip (enL hi)) = true) : ∃ r, lo ≤ r ∧ r ≤ hi ∧ l = enL r := by
  have side : ∀ r, lo ≤ r → r ≤ hi → 65536 ≤ r ∧ r ≤ 1114111 := fun r a b => ⟨Int.le_trans h1 a, Int.le_trans b h2⟩
  rw [enL_four (side lo (Int.le_refl _) h3).1 (side lo (Int.le_refl _) h3).2, enL_four (side hi h3 (Int.le_refl _)).1 (side hi h3 (Int.le_refl _)).2] at hin
  simp only [List.zip_cons_cons, List.zip_nil_right] at hin
  obtain ⟨b, l1, rfl, hb, hin⟩ := inL_inv hin
  obtain ⟨c, l2, rfl, hc, hin⟩ := inL_inv hin
  obtain ⟨d, l3, rfl, hd, hin⟩ := inL_inv hin
  obtain ⟨e, l4, rfl, he, hin⟩ := inL_inv hin
  rw [inL_inv0 hin]
  obtain ⟨c0, c1, c2⟩ := bnd hc
  obtain ⟨e0, e1, e2⟩ := bnd hd
  obtain ⟨f0, f1, f2⟩ := bnd he
  have hb2 := hdl hb
  rw [← dv2, ← dv2] at hb2
  have hm := lexI c0 c1 (dig2 k4) hb2 c2
  rw [← dv1, ← dv1] at hm
  have hr := lexI f0 f1 k2 (lexI e0 e1 (dig k3) hm e2) f2
  obtain ⟨d1, d2⟩ := dgt (((b - 240) * 64 + (c - 128)) * 64 + (d - 128)) (e - 128) f0 f1
  obtain ⟨d3, d4⟩ := dgt ((b - 240) * 64 + (c - 128)) (d - 128) e0 e1
  obtain ⟨d5, d6⟩ := dgt (b - 240) (c - 128) c0 c1
  refine ⟨_, hr.1, hr.2, ?_⟩
  rw [enL_four (side _ hr.1 hr.2).1 (side _ hr.1 hr.2).2, ← dv2, ← dv1, d1, d2, d3, d4, d5, d6, adds, adds, adds, adds]
theorem leaf_back {lo hi : Int} {l : List Int} (h : Blk lo hi) (hs : seam lo hi = none) (hin : inL l (shp (lo, hi)) = true) : ∃ r, lo ≤ r ∧ r ≤ hi ∧ l = enL r := by
  obtain ⟨k2, k3, k4⟩ := leaf_at hs
  have hl := h.1
  rcases h.2 with q | q | q | q | q
  · unfold shp at hin
    dsimp only at hin
    clear k2 k3 k4
    rw [enL_one (r := lo) (by omega) (by omega), enL_one (r := hi) (by omega) (by omega)] at hin
    simp only [List.zip_cons_cons, List.zip_nil_right] at hin
    obtain ⟨b, l', rfl, hb, hin⟩ := inL_inv hin
    rw [inL_inv0 hin]
    exact ⟨b, hb.1, hb.2, by rw [enL_one (by have := hb.1; dsimp only at this; omega) (by have := hb.2; dsimp only at this; omega)]⟩
  · have hz : szI lo = 2 := by unfold szI; rw [if_neg (by omega), if_pos (by omega)]
    rw [hz] at k2
    exact leaf_two q.1 q.2 hl (k2 (by decide)) hin
  · have hz : szI lo = 3 := by unfold szI; rw [if_neg (by omega), if_neg (by omega), if_pos (by omega)]
    rw [hz] at k2 k3
    exact leaf_three (.inl q) hl (k2 (by decide)) (k3 (by decide)) hin
  · have hz : szI lo = 3 := by unfold szI; rw [if_neg (by omega), if_neg (by omega), if_pos (by omega)]
    rw [hz] at k2 k3
    exact leaf_three (.inr q) hl (k2 (by decide)) (k3 (by decide)) hin
  · have hz : szI lo = 4 := by unfold szI; rw [if_neg (by omega), if_neg (by omega), if_neg (by omega)]
    rw [hz] at k2 k3 k4
    exact leaf_four q.1 q.2 hl (k2 (by decide)) (k3 (by decide)) (k4 (by decide)) hin
end Go.Proofs.YtiillgahnbimjabDoor
