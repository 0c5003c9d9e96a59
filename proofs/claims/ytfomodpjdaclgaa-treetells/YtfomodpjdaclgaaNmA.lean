/- DERIVED. Walks: Index, Contains, SameTexts. -/
import Derived.Test.YtfomodpjdaclgaaCpB
namespace Go.Proofs.Ytfomodpjdaclgaa
open Go.RowKit

def stc (l : List ByteArray) : List Value := l.map Value.string
def inB (s : ByteArray) (l : List ByteArray) : Bool := l.any fun x => s.toList == x.toList
theorem inB_t {s : ByteArray} {l : List ByteArray} {k : Nat} {x : ByteArray} (h : l[k]? = some x) (e : (s.toList == x.toList) = true) : inB s l = true := by
  unfold inB
  exact List.any_eq_true.2 ⟨x, List.mem_of_getElem? h, e⟩
theorem inB_f {s : ByteArray} {l : List ByteArray} (h : ∀ (k : Nat) x, l[k]? = some x → (s.toList == x.toList) = false) : inB s l = false := by
  unfold inB
  rw [List.any_eq_false]
  intro x hx
  obtain ⟨k, hk⟩ := List.getElem?_of_mem hx
  rw [h k x hk]
  exact Bool.false_ne_true
/-- A list of texts that can be read. -/
def RdT (W : World) (v : Value) (l : List ByteArray) : Prop := ∃ A c, v = .slice A l.length c ∧ (l ≠ [] → ∃ g, A = some ⟨g, 0, none⟩ ∧ g < W.heap.size ∧ ∀ (k : Nat) x, l[k]? = some x → W.cell? ⟨g, k, none⟩ = some (.string x))
theorem own_rdt {W : World} {B n : Nat} {v : Value} {l : List ByteArray} (h : W.ownsRow B 9 1 v n (stc l)) (hn : n = l.length) : RdT W v l := by
  subst hn
  have hc := h
  rcases h.2 with ⟨rfl, h0⟩ | ⟨g, cap, cur, rfl, _⟩
  · exact ⟨none, 0, by rw [h0], fun hl => absurd (List.eq_nil_of_length_eq_zero h0) hl⟩
  · refine ⟨_, cap, rfl, fun _ => ⟨g, rfl, (hc.lt g rfl).2, fun k x hk => ?_⟩⟩
    have := hc.cells (g := g) rfl k (.string x) (by unfold stc; rw [List.getElem?_map, hk]; rfl)
    rwa [Addr.add_lit, Nat.zero_add] at this

set_option maxRecDepth 100000 in
set_option maxHeartbeats 4000000 in
theorem index_any (v : Value) (s : ByteArray) (l : List ByteArray) (hl : l.length ≤ 4096) (w : World) (h : RdT w v l) :
    Calls Try.prog 60 #[v, .string s] w fun e w' => (∃ r : Int, e = .returned (.int .i64 r) ∧ decide (0 ≤ r) = inB s l) ∧ w' = w := by
  obtain ⟨A, c, rfl, h⟩ := h
  have H := (show Hid _ from h)
  have HG := (show Hid (∀ k, k < l.length → ∃ x, l[k]? = some x ∧ l ≠ []) from fun k hk => ⟨_, List.getElem?_eq_getElem hk, by rintro rfl; simp at hk⟩)
  have HT := (show Hid (∀ (k : Nat) x, l[k]? = some x → (s.toList == x.toList) = true → inB s l = true) from fun k x hk e => inB_t hk e)
  have HF := (show Hid ((∀ (k : Nat) x, k < l.length → l[k]? = some x → (s.toList == x.toList) = false) → inB s l = false) from fun h => inB_f (fun k x hk => by
    refine h k x ?_ hk
    by_cases q : k < l.length
    · exact q
    · rw [List.getElem?_eq_none (by omega)] at hk; cases hk))
  clear h
  go_enter Try.func60, Try.ntmps60
  go_wp2_with fail
  go_loopw [8] (fun t wr => ∃ k : Nat, k ≤ l.length ∧ t = .int .i64 k ∧ wr = w ∧ Hid (∀ (j : Nat) x, j < k → l[j]? = some x → (s.toList == x.toList) = false)) (fun t _ => l.length - (intOf t).toNat)
  case atStart => exact ⟨0, by omega, by go_num, rfl, fun j x q => by omega⟩
  case round =>
    obtain ⟨k, hk, rfl, rfl, HI⟩ := hrel
    by_cases hlt : k < l.length
    · obtain ⟨x, hx, hne⟩ := HG.out k hlt
      obtain ⟨g, rfl, lg, q⟩ := H.out hne
      have e1 := q k x hx
      have z0 : (0 : Int) ≤ (k : Int) := by omega
      have z1 : (k : Int) < (l.length : Int) := by omega
      cases he : (s.toList == x.toList) with
      | true =>
        have HE := (show Hid (inB s l = true) from HT.out k x hx he)
        clear HG H q hx hne HT HF HI
        go_wp2_with fail
        go_ret
        exact ⟨⟨_, rfl, by rw [HE.out]; exact decide_eq_true z0⟩, rfl⟩
      | false =>
        have HI2 := (show Hid (∀ (j : Nat) y, j < k + 1 → l[j]? = some y → (s.toList == y.toList) = false) from fun j y hj hy => by
          by_cases q : j < k
          · exact HI.out j y q hy
          · obtain rfl : j = k := by omega
            rw [hx] at hy
            cases hy
            exact he)
        clear HG H q hx hne HT HF HI
        go_wp2_with fail
        go_roundw
        case rel => exact ⟨k + 1, by omega, by go_num, trivial, HI2⟩
        case measure => simp [intOf]; omega
    · obtain rfl : k = l.length := by omega
      have HE := (show Hid (inB s l = false) from HF.out (fun j x hj hx => HI.out j x hj hx))
      clear HG H HT HF HI
      go_wp2_with fail
      go_ret
      exact ⟨⟨_, rfl, by rw [HE.out]; rfl⟩, rfl⟩
set_option maxRecDepth 100000 in
set_option maxHeartbeats 1000000 in
theorem contains_any (v : Value) (s : ByteArray) (l : List ByteArray) (hl : l.length ≤ 4096) (w : World) (h : RdT w v l) :
    Calls Try.prog 50 #[v, .string s] w fun e w' => e = .returned (.bool (inB s l)) ∧ w' = w := by
  have H : Hid (∀ _ : Unit, Calls Try.prog 60 #[v, .string s] w fun e w' => (∃ r : Int, e = .returned (.int .i64 r) ∧ decide (0 ≤ r) = inB s l) ∧ w' = w) := fun _ => index_any v s l hl w h
  clear h
  go_enter Try.func50, Try.ntmps50
  go_wp2_with fail
  refine (H.out ()).mono ?_
  rintro e w2 ⟨⟨r, rfl, hr⟩, rfl⟩
  have HR := (show Hid (decide (0 ≤ r) = inB s l) from hr)
  clear H hr
  go_wp2_with fail
  go_ret
  exact ⟨by rw [← HR.out]; rfl, rfl⟩

set_option maxRecDepth 100000 in
set_option maxHeartbeats 4000000 in
theorem sameTexts_any (v1 v2 : Value) (l : List ByteArray) (hl : l.length ≤ 4096) (w : World) (h1 : RdT w v1 l) (h2 : RdT w v2 l) :
    Calls Try.prog 35 #[v1, v2] w fun e w' => e = .returned (.bool true) ∧ Below w.heap.size w w' := by
  obtain ⟨A1, c1, rfl, f1⟩ := h1
  obtain ⟨A2, c2, rfl, f2⟩ := h2
  have H1 := (show Hid _ from f1)
  have H2 := (show Hid _ from f2)
  have HG := (show Hid (∀ k, k < l.length → ∃ x, l[k]? = some x ∧ l ≠ []) from fun k hk => ⟨_, List.getElem?_eq_getElem hk, by rintro rfl; simp at hk⟩)
  clear f1 f2
  go_enter Try.func35, Try.ntmps35
  go_wp2_with fail
  go_loopw [5] (fun t wr => ∃ k : Nat, k ≤ l.length ∧ t = .int .i64 k ∧ Hid (Below w.heap.size w wr)) (fun t _ => l.length - (intOf t).toNat)
  case atStart => exact ⟨0, by omega, by go_num, Below.refl _ _⟩
  case round =>
    obtain ⟨k, hk, rfl, HW⟩ := hrel
    by_cases hlt : k < l.length
    · obtain ⟨x, hx, hne⟩ := HG.out k hlt
      obtain ⟨g1, rfl, l1, q1⟩ := H1.out hne
      obtain ⟨g2, rfl, l2, q2⟩ := H2.out hne
      have e1 := (HW.out.cell (p := ⟨g1, k, none⟩) l1).trans (q1 k x hx)
      have e2 := (HW.out.cell (p := ⟨g2, k, none⟩) l2).trans (q2 k x hx)
      have z0 : (0 : Int) ≤ (k : Int) := by omega
      have z1 : (k : Int) < (l.length : Int) := by omega
      clear HG H1 H2 q1 q2 hx hne
      go_wp2_with fail
      go_quiet (fail)
      have HW2 := (show Hid (Below w.heap.size w (wr.drewN nq)) from HW.out.trans (below_drewN (Below.refl _ _) _))
      generalize wr.drewN nq = w2 at *
      clear e1 e2 HW
      go_wp2
      go_roundw
      case rel => exact ⟨k + 1, by omega, by go_num, HW2⟩
      case measure => simp [intOf]; omega
    · obtain rfl : k = l.length := by omega
      clear HG H1 H2
      go_wp2
      go_ret
      exact ⟨rfl, HW.out⟩
end Go.Proofs.Ytfomodpjdaclgaa
