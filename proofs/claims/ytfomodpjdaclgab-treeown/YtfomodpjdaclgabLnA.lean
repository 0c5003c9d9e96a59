/- DERIVED. Walks: LendPattern, KeptPattern. -/
import Derived.Test.YtfomodpjdaclgabLvA
import Derived.Laws.AppendOwnNone
namespace Go.Proofs.Ytfomodpjdaclgab
open Go.RowKit

theorem Try.info43 : (Try.prog.info? 37).map (fun i => (i.zero, i.size, i.bytes)) = some (some (.agg #[.int .i64 0, .int .i64 0, .string ⟨#[]⟩, .int .u64 0, .int .u64 0, .int .u64 0, .int .u64 0]), 7, 64) := by kernel_rfl
abbrev zA : Value := .agg #[.int .i64 0, .int .i64 0, .string ⟨#[]⟩, .int .u64 0, .int .u64 0, .int .u64 0, .int .u64 0]
theorem own_empty (w : World) : (w.alloc (.cells #[] 37)).ownsRow w.heap.size 37 7 (.slice (some ⟨w.heap.size, 0, none⟩) 0 0) 0 [] :=
  ⟨rfl, .inr ⟨w.heap.size, 0, #[], rfl, Nat.le_refl _, heap_alloc_new w _, Nat.le_refl _, Nat.zero_le _, rfl, rfl⟩⟩
theorem own_cap {W : World} {B e size n : Nat} {g cap : Nat} {xs : List Value} (h : W.ownsRow B e size (.slice (some ⟨g, 0, none⟩) n cap) n xs) : n ≤ cap := by
  rcases h.2 with ⟨q, _⟩ | ⟨g2, c2, cur, q, _, _, h3, _⟩
  · cases q
  · cases q; exact h3
theorem ndc_get (L : List Nd) (j : Nat) (n : Nd) (h : L[j]? = some n) : ∀ i, i < 7 → (ndc L)[j * 7 + i]? = (ndV n)[i]? := by
  induction L generalizing j with
  | nil => cases h
  | cons a L ih =>
    intro i hi
    have e : ndc (a :: L) = ndV a ++ ndc L := rfl
    rw [e]
    cases j with
    | zero =>
      cases h
      rw [Nat.zero_mul, Nat.zero_add, List.getElem?_append_left (by show i < 7; exact hi)]
    | succ j =>
      have h2 : L[j]? = some n := by simpa using h
      have e7 : (ndV a).length = 7 := rfl
      rw [List.getElem?_append_right (by rw [e7]; omega), e7, show (j + 1) * 7 + i - 7 = j * 7 + i from by omega]
      exact ih j h2 i hi
theorem nd_one (n : Nd) : ∀ u ∈ ndV n, u.oneCell' = true := fun u hu => by
  simp only [ndV, List.mem_cons, List.not_mem_nil, or_false] at hu
  rcases hu with rfl | rfl | rfl | rfl | rfl | rfl | rfl <;> rfl
theorem ndc_cell (L : List Nd) : ∀ u ∈ ndc L, u.oneCell' = true := fun u hu => by
  obtain ⟨n, _, hn⟩ := List.mem_flatMap.1 hu
  exact nd_one n u hn
theorem own_ndl {W : World} {B g n cap : Nat} {L : List Nd} {xs : List Value} (h : W.ownsRow B 37 7 (.slice (some ⟨g, 0, none⟩) n cap) n (ndc L ++ xs)) : NdL W g 0 L := fun j nd hj => by
  have hc := h.cells (g := g) rfl
  have hjl : j < L.length := by
    by_cases q : j < L.length
    · exact q
    · rw [List.getElem?_eq_none (by omega)] at hj; cases hj
  have key : ∀ i u, i < 7 → (ndV nd)[i]? = some u → W.cell? ⟨g, 0 + j * 7 + i, none⟩ = some u := fun i u hi hu => by
    have := hc (j * 7 + i) u (by rw [List.getElem?_append_left (by rw [ndc_len]; omega), ndc_get L j nd hj i hi]; exact hu)
    rw [Addr.add_lit] at this
    rw [Nat.add_assoc]
    exact this
  exact ⟨key 0 _ (by omega) rfl, key 1 _ (by omega) rfl, key 2 _ (by omega) rfl, key 3 _ (by omega) rfl, key 4 _ (by omega) rfl, key 5 _ (by omega) rfl, key 6 _ (by omega) rfl⟩
/-- What comes in. -/
def InP (W : World) (A : Option Addr) (c : Nat) (L : List Nd) : Prop := RdN W A L ∧ (A = none → c = 0 ∧ L = [])
theorem in_cells {W : World} {ad : Addr} {L : List Nd} (h : RdN W (some ad) L) : ∀ (j : Nat) u, (ndc L)[j]? = some u → W.cell? (ad.add j) = some u := fun j u hj => by
  have hlt : j < L.length * 7 := by
    by_cases q : j < L.length * 7
    · exact q
    · rw [List.getElem?_eq_none (by rw [ndc_len]; omega)] at hj; cases hj
  obtain ⟨g, o, e, _, hc⟩ := h (by rintro rfl; simp at hlt)
  cases e
  have hd : j = j / 7 * 7 + j % 7 := by omega
  obtain ⟨nd, hn⟩ : ∃ nd, L[j / 7]? = some nd := ⟨_, List.getElem?_eq_getElem (by omega)⟩
  rw [hd, ndc_get L _ _ hn _ (by omega)] at hj
  obtain ⟨c0, c1, c2, c3, c4, c5, c6⟩ := hc _ _ hn
  rw [Addr.add_lit]
  generalize j / 7 = a at *
  have h7 : j % 7 < 7 := by omega
  generalize j % 7 = b at *
  subst hd
  rw [← Nat.add_assoc]
  match b, h7, hj with
  | 0, _, hj => cases hj; exact c0
  | 1, _, hj => cases hj; exact c1
  | 2, _, hj => cases hj; exact c2
  | 3, _, hj => cases hj; exact c3
  | 4, _, hj => cases hj; exact c4
  | 5, _, hj => cases hj; exact c5
  | 6, _, hj => cases hj; exact c6

/-- What was lent. -/
def Lent (w w' : World) (L : List Nd) (e : Ending) : Prop := ∃ g cap, e = .returned (.slice (some ⟨g, 0, none⟩) L.length cap) ∧ w'.ownsRow w.heap.size 37 7 (.slice (some ⟨g, 0, none⟩) (L.length + 1) cap) (L.length + 1) (ndc L ++ ndV (zN (-77)))
set_option maxRecDepth 100000 in
set_option maxHeartbeats 4000000 in
theorem lend_some (ad : Addr) (c : Nat) (L : List Nd) (w : World) (hl : L.length * 64 ≤ 140737488351232) (hc : ∀ (j : Nat) u, (ndc L)[j]? = some u → w.cell? (ad.add j) = some u) :
    Calls Try.prog 16 #[.slice (some ad) L.length c] w fun e w' => Lent w w' L e ∧ Below w.heap.size w w' := by
  obtain ⟨i0, hinf, hz0, hz1, hz2⟩ := info_parts Try.info43
  have hO := own_empty w
  have HB := (show Hid (Below w.heap.size w (w.alloc (.cells #[] 37))) from below_box _ _)
  have HC := (show Hid (∀ (j : Nat) u, (ndc L)[j]? = some u → (w.alloc (.cells #[] 37)).cell? (ad.add j) = some u) from fun j u hj => by
    have h1 := hc j u hj
    have h2 := World.block_lt_of_cell? w _ h1
    exact ((below_box w (.cells #[] 37)).cell (p := ad.add j) h2).trans h1)
  have HI := (show Hid ((ndc L).length = L.length * 7 ∧ ∀ u ∈ ndc L, u.oneCell' = true) from ⟨ndc_len L, ndc_cell L⟩)
  clear hc
  go_enter Try.func16, Try.ntmps16
  go_wp2_with (at_builtin; refine wpList_append_own _ rfl _ _ 23 rfl w.heap.size 37 i0 zA 7 64 Try.underlying23 hinf hz0 hz1 hz2 rfl (by decide) _ _ _ rfl hO ad L.length c (ndc L) rfl HI.out.1 HC.out HI.out.2 ?c3 ?c4 ?c5 ?_)
  case c3 => unfold maxLen; omega
  case c4 => omega
  case c5 => simp
  intro v1 w1 hown hgrow _
  have HB1 := (show Hid (Below w.heap.size w w1) from HB.out.grown hgrow (by simp) (fun k e => (hO.lt k e).1))
  have hsz := HB1.out.size
  clear hgrow hO HB
  go_wp2_with (at_builtin; refine wpList_append_lies _ rfl _ _ 23 rfl w.heap.size 37 i0 zA 7 64 Try.underlying23 hinf hz0 hz1 hz2 rfl (by decide) _ _ _ rfl (hown.alloc _) ⟨w1.heap.size, 0, none⟩ 1 1 (ndV (zN (-77))) rfl rfl ?c1 (nd_one _) (by decide) ?c3 ?c4 ?c5 (w1.heap.size + 1) (by simp) ?_)
  case c1 => exact World.news_of_block (cs := #[.int .i64 (-77), .int .i64 0, .string ⟨#[]⟩, .int .u64 0, .int .u64 0, .int .u64 0, .int .u64 0]) (t := 37) (fr := (0, 0)) (heap_alloc_new w1 _)
  case c3 => unfold maxLen; omega
  case c4 => omega
  case c5 => simp; omega
  intro g cap w2 hown2 hgrow2 hat hlt
  have HB2 := (show Hid (Below w.heap.size w w2) from (HB1.out.alloc hsz _).grown hgrow2 (by simp; omega) (fun k e => (hown.lt k e).1))
  have HO2 := (show Hid (w2.ownsRow w.heap.size 37 7 (.slice (some ⟨g, 0, none⟩) (L.length + 1) cap) (L.length + 1) (ndc L ++ ndV (zN (-77)))) from hown2)
  have hcap := own_cap hown2
  have z0 : (0 : Int) ≤ (L.length : Int) := by omega
  have z1 : (L.length : Int) ≤ (cap : Int) := by omega
  clear hown hown2 hgrow2 HB1 hat hlt HC HI
  go_wp2_with fail
  go_ret
  exact ⟨⟨g, cap, rfl, HO2.out⟩, HB2.out⟩

set_option maxRecDepth 100000 in
set_option maxHeartbeats 4000000 in
theorem lend_nil (w : World) : Calls Try.prog 16 #[.slice none 0 0] w fun e w' => Lent w w' [] e ∧ Below w.heap.size w w' := by
  obtain ⟨i0, hinf, hz0, hz1, hz2⟩ := info_parts Try.info43
  have hO := own_empty w
  have HB := (show Hid (Below w.heap.size w (w.alloc (.cells #[] 37))) from below_box _ _)
  go_enter Try.func16, Try.ntmps16
  go_wp2_with (at_builtin; first | refine wpList_append_own_none rfl _ _ 23 rfl w.heap.size 37 i0 7 Try.underlying23 hinf _ _ _ rfl hO rfl ?_ | refine wpList_append_lies _ rfl _ _ 23 rfl w.heap.size 37 i0 zA 7 64 Try.underlying23 hinf hz0 hz1 hz2 rfl (by decide) _ _ _ rfl (hO.alloc _) ⟨w.heap.size + 1, 0, none⟩ 1 1 (ndV (zN (-77))) rfl rfl ?c1 (nd_one _) (by decide) ?c3 ?c4 ?c5 (w.heap.size + 1 + 1) (by simp) ?_)
  case c1 =>
    have h := heap_alloc_new (w.alloc (.cells #[] 37)) (.cells #[.int .i64 (-77), .int .i64 0, .string ⟨#[]⟩, .int .u64 0, .int .u64 0, .int .u64 0, .int .u64 0] 37)
    rw [World.size_alloc] at h
    exact World.news_of_block (cs := #[.int .i64 (-77), .int .i64 0, .string ⟨#[]⟩, .int .u64 0, .int .u64 0, .int .u64 0, .int .u64 0]) (t := 37) (fr := (0, 0)) h
  case c3 => unfold maxLen; omega
  case c4 => omega
  case c5 => simp; omega
  intro g cap w2 hown2 hgrow2 hat hlt
  have HB2 := (show Hid (Below w.heap.size w w2) from (HB.out.alloc (by simp) _).grown hgrow2 (by simp; omega) (fun k e => (hO.lt k e).1))
  have HO2 := (show Hid (w2.ownsRow w.heap.size 37 7 (.slice (some ⟨g, 0, none⟩) (0 + 1) cap) (0 + 1) (ndc [] ++ ndV (zN (-77)))) from hown2)
  have z1 : (0 : Int) ≤ (cap : Int) := by omega
  clear hown2 hgrow2 HB hat hlt hO
  go_wp2_with fail
  go_ret
  exact ⟨⟨g, cap, rfl, HO2.out⟩, HB2.out⟩
theorem lend_any (A : Option Addr) (c : Nat) (L : List Nd) (w : World) (hl : L.length * 64 ≤ 140737488351232) (h : InP w A c L) : Calls Try.prog 16 #[.slice A L.length c] w fun e w' => Lent w w' L e ∧ Below w.heap.size w w' := by
  cases A with
  | none =>
    obtain ⟨rfl, rfl⟩ := h.2 rfl
    exact lend_nil w
  | some ad => exact lend_some ad c L w hl (in_cells h.1)
/-- A row that was lent, and is as it was. -/
def LentR (W : World) (B g cap : Nat) (L : List Nd) : Prop := W.ownsRow B 37 7 (.slice (some ⟨g, 0, none⟩) (L.length + 1) cap) (L.length + 1) (ndc L ++ ndV (zN (-77)))
theorem LentR.below {W W' : World} {B g cap : Nat} {L : List Nd} (h : LentR W B g cap L) (hb : Below W.heap.size W W') : LentR W' B g cap L := own_below h hb
theorem LentR.rd {W : World} {B g cap : Nat} {L : List Nd} (h : LentR W B g cap L) : RdN W (some ⟨g, 0, none⟩) L := fun _ => ⟨g, 0, rfl, (h.lt g rfl).2, own_ndl h⟩
theorem LentR.last {W : World} {B g cap : Nat} {L : List Nd} (h : LentR W B g cap L) : NB W g (L.length * 7) (zN (-77)) := by
  have hc := h.cells (g := g) rfl
  have key : ∀ i u, i < 7 → (ndV (zN (-77)))[i]? = some u → W.cell? ⟨g, L.length * 7 + i, none⟩ = some u := fun i u hi hu => by
    have := hc (L.length * 7 + i) u (by rw [List.getElem?_append_right (by rw [ndc_len]; omega), ndc_len, show L.length * 7 + i - L.length * 7 = i from by omega]; exact hu)
    rw [Addr.add_lit, Nat.zero_add] at this
    exact this
  exact ⟨key 0 _ (by omega) rfl, key 1 _ (by omega) rfl, key 2 _ (by omega) rfl, key 3 _ (by omega) rfl, key 4 _ (by omega) rfl, key 5 _ (by omega) rfl, key 6 _ (by omega) rfl⟩

set_option maxRecDepth 100000 in
set_option maxHeartbeats 4000000 in
theorem kept_any (A : Option Addr) (c g cap B : Nat) (L : List Nd) (hl : L.length * 64 ≤ 140737488351232) (w : World) (h : RdN w A L) (ho : LentR w B g cap L) :
    Calls Try.prog 20 #[.slice (some ⟨g, 0, none⟩) L.length cap, .slice A L.length c] w fun e w' => e = .returned (.bool true) ∧ Below w.heap.size w w' := by
  have HS : Hid (∀ _ : Unit, Calls Try.prog 21 #[.slice (some ⟨g, 0, none⟩) L.length cap, .slice A L.length c] w fun e w' => e = .returned (.bool true) ∧ Below w.heap.size w w') := fun _ => by
    have hh := samePattern_any (some ⟨g, 0, none⟩) A cap c L L (by omega) (by omega) w ho.rd h
    rw [patB_refl] at hh
    exact hh
  have hcap := own_cap ho
  have HO := (show Hid (∀ w', Below w.heap.size w w' → NB w' g (L.length * 7) (zN (-77))) from fun w' hb => (ho.below hb).last)
  clear ho h
  have z0 : (0 : Int) ≤ (L.length : Int) := by omega
  have z1 : (L.length : Int) + 1 ≤ (cap : Int) := by omega
  have z2 : (L.length : Int) < (L.length : Int) + 1 := by omega
  have hq := node_eql (zN (-77)) (zN (-77))
  rw [ndE_refl] at hq
  generalize L.length = n at *
  go_enter Try.func20, Try.ntmps20
  go_wp2_with fail
  refine (HS.out ()).mono ?_
  rintro e w1 ⟨rfl, hb⟩
  obtain ⟨c0, c1, c2, c3, c4, c5, c6⟩ := HO.out w1 hb
  have HB := (show Hid _ from hb)
  clear hb HS HO
  unfold zN at c0 c1 c2 c3 c4 c5 c6 hq
  dsimp only at c0 c1 c2 c3 c4 c5 c6
  go_wp2_with fail
  go_ret
  exact ⟨rfl, HB.out⟩
end Go.Proofs.Ytfomodpjdaclgab
