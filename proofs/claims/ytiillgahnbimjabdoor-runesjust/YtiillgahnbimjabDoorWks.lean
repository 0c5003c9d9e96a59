/- DERIVED. Walks: works. -/
import Derived.Test.YtiillgahnbimjabDoorSmD
import Derived.Test.YtiillgahnbimjabDoorClA
namespace Go.Proofs.YtiillgahnbimjabDoor
open Go.RowKit

/-- The cells of a shape. -/
def SpL (W : World) (g off : Nat) (s : Shape) : Prop := ∀ (j : Nat) p, s[j]? = some p → W.cell? ⟨g, off + j * 2, none⟩ = some (.int .i64 p.1) ∧ W.cell? ⟨g, off + j * 2 + 1, none⟩ = some (.int .i64 p.2)
theorem spc_get (s : Shape) (j : Nat) (p : Int × Int) (h : s[j]? = some p) : (spc s)[j * 2]? = some (.int .i64 p.1) ∧ (spc s)[j * 2 + 1]? = some (.int .i64 p.2) := by
  induction s generalizing j with
  | nil => cases h
  | cons a s ih =>
    have e : spc (a :: s) = .int .i64 a.1 :: .int .i64 a.2 :: spc s := rfl
    rw [e]
    cases j with
    | zero => cases h; exact ⟨rfl, rfl⟩
    | succ j =>
      have h2 : s[j]? = some p := by simpa using h
      rw [show (j + 1) * 2 = j * 2 + 1 + 1 from by omega]
      exact ih j h2
theorem own_spl {W : World} {B g n cap : Nat} {s : Shape} (h : W.ownsRow B 34 2 (.slice (some ⟨g, 0, none⟩) n cap) s.length (spc s)) : SpL W g 0 s := fun j p hp => by
  have hc := h.cells (g := g) rfl
  obtain ⟨h1, h2⟩ := spc_get s j p hp
  have c1 := hc _ _ h1
  have c2 := hc _ _ h2
  rw [Addr.add_lit] at c1 c2
  exact ⟨c1, by rw [Nat.add_assoc]; exact c2⟩
/-- A shape of a list of shapes. -/
theorem RR.get {W : World} {B : Nat} {v : Value} {ss : List Shape} {xs : List Value} (h : RR W B v ss xs) {i : Nat} {s : Shape} (hs : ss[i]? = some s) :
    ∃ g cap gx cx, v = .slice (some ⟨g, 0, none⟩) ss.length cap ∧ g < W.heap.size ∧ xs[i]? = some (.slice (some ⟨gx, 0, none⟩) s.length cx) ∧ W.cell? ⟨g, i, none⟩ = some (.slice (some ⟨gx, 0, none⟩) s.length cx) ∧ gx < W.heap.size ∧ SpL W gx 0 s := by
  have hi : i < ss.length := by
    by_cases q : i < ss.length
    · exact q
    · rw [List.getElem?_eq_none (by omega)] at hs; cases hs
  have hx : xs[i]? = some (xs[i]'(by rw [h.len]; exact hi)) := List.getElem?_eq_getElem (by rw [h.len]; exact hi)
  obtain ⟨h1, h2, _⟩ := h.each i _ s hx hs
  obtain ⟨g, cap, hv, _, hlt⟩ := h.o.form (by rw [h.len]; omega)
  obtain ⟨gx, hgx, _, hlt2⟩ := h.lt hx
  have hform : ∃ cx, xs[i]'(by rw [h.len]; exact hi) = .slice (some ⟨gx, 0, none⟩) s.length cx := by
    rcases h1.2 with ⟨q, _⟩ | ⟨g2, cx, cur, q, _⟩
    · rw [q] at h2; exact absurd rfl h2
    · rw [q] at hgx
      have e : g2 = gx := Option.some.inj hgx
      exact ⟨cx, by rw [q, e]⟩
  obtain ⟨cx, hq⟩ := hform
  rw [hq] at hx h1
  have hcell := h.o.cells (g := g) (by rw [hv]; rfl) i _ hx
  rw [Addr.add_lit, Nat.zero_add] at hcell
  exact ⟨g, cap, gx, cx, by rw [hv, h.len], hlt, hx, hcell, hlt2, own_spl h1⟩

theorem shAll_ex : shAll 945 969 = [[(206, 206), (177, 191)], [(207, 207), (128, 137)]] := by decide +kernel
theorem cln_ex : cln ⟨#[97, 255, 98]⟩ = [97, 239, 191, 189, 98] := by decide +kernel
theorem enc_ex : Utf8.encode 8364 = ⟨#[226, 130, 172]⟩ := by rfl

set_option maxRecDepth 100000 in
set_option maxHeartbeats 4000000 in
theorem works_any (w : World) (hv : VB w) : Calls Tryd.prog 4 #[] w fun e w' => e = .returned (.bool true) ∧ Below w.heap.size w w' := by
  have H1 : Hid (∀ w, Calls Tryd.prog 6 #[.int .i64 8364] w fun e w' => e = .returned (.tuple #[.string ⟨#[226, 130, 172]⟩, .int .i64 0]) ∧ w' = w) := fun w => by
    have e := encode_any 8364 w
    rw [enV_t (by unfold cp; omega), enc_ex] at e
    exact e
  have H2 : Hid (Calls Tryd.prog 5 #[.int .i64 945, .int .i64 969] w fun e w' => (∃ g cap gx cx, e = .returned (.tuple #[.slice (some ⟨g, 0, none⟩) 2 cap, .int .i64 0]) ∧ w'.cell? ⟨g, 0, none⟩ = some (.slice (some ⟨gx, 0, none⟩) 2 cx) ∧ w'.cell? ⟨gx, 2, none⟩ = some (.int .i64 177) ∧ w'.cell? ⟨gx, 3, none⟩ = some (.int .i64 191)) ∧ Below w.heap.size w w') :=
    (shapes_in 945 969 (by omega) (by omega) (by omega) w hv).mono fun e w' ⟨⟨v, xs, h1, h2⟩, h3⟩ => by
      rw [shAll_ex] at h2
      obtain ⟨g, cap, gx, cx, rfl, _, _, h5, _, h6⟩ := h2.get (i := 0) rfl
      obtain ⟨c0, c1⟩ := h6 1 _ rfl
      exact ⟨⟨g, cap, gx, cx, h1, h5, c0, c1⟩, h3⟩
  have H3 : Hid (∀ w, Calls Tryd.prog 9 #[.string ⟨#[97, 255, 98]⟩] w fun e w' => e = .returned (.string ⟨#[97, 239, 191, 189, 98]⟩) ∧ Below w.heap.size w w') := fun w => by
    have e := clean_any ⟨#[97, 255, 98]⟩ (by decide) w
    rw [cln_ex] at e
    exact e
  go_enter Tryd.func4, Tryd.ntmps4
  go_wp2_with fail
  refine (H1.out _).mono ?_
  rintro e w' ⟨rfl, rfl⟩
  go_wp2_with fail
  refine H2.out.mono ?_
  rintro e w1 ⟨⟨g, cap, gx, cx, rfl, c0, c1, c2⟩, hb1⟩
  have HB := (show Hid _ from hb1)
  clear hb1
  go_wp2_with fail
  refine (H3.out _).mono ?_
  rintro e w2 ⟨rfl, hb2⟩
  have HB2 := (show Hid (Below w'.heap.size w' w2) from HB.out.trans (hb2.mono HB.out.size))
  clear hb2 c0 c1 c2
  go_wp2
  go_ret
  exact ⟨rfl, HB2.out⟩
end Go.Proofs.YtiillgahnbimjabDoor
