/- DERIVED. The law CharsetCounts, walked. -/
import Derived.Test.YtlcmlipldkpliaaSingle
namespace Go.Proofs.Ytlcmlipldkpliaa
open Go.RowKit

def emptyB (x : BitVec 256) : Bool := x == 0#256
def fullB (x : BitVec 256) : Bool := x == ~~~ 0#256
def withinB (x y : BitVec 256) : Bool := x &&& y == x
theorem emptyB_any (x : BitVec 256) (w : World) : Calls Try.prog 32 #[sv x] w fun e w' => e = .returned (.bool (emptyB x)) ∧ Below w.heap.size w w' := empty_any x w
theorem fullB_any (x : BitVec 256) (w : World) : Calls Try.prog 33 #[sv x] w fun e w' => e = .returned (.bool (fullB x)) ∧ Below w.heap.size w w' := full_any x w
theorem apartB_any (x y : BitVec 256) (w : World) : Calls Try.prog 34 #[sv x, sv y] w fun e w' => e = .returned (.bool (emptyB (x &&& y))) ∧ Below w.heap.size w w' := apart_any x y w
theorem withinB_any (x y : BitVec 256) (w : World) : Calls Try.prog 35 #[sv x, sv y] w fun e w' => e = .returned (.bool (withinB x y)) ∧ Below w.heap.size w w' := within_any x y w
theorem emptyB_eq (x : BitVec 256) : emptyB x = ((cnt x : Int) == 0) := cnt_zero x
theorem fullB_eq (x : BitVec 256) : fullB x = ((cnt x : Int) == 256) := cnt_full x
theorem withinB_eq (x y : BitVec 256) : withinB x y = ((cnt (x &&& ~~~ y) : Int) == 0) := cnt_within x y
theorem lst_zero (x : BitVec 256) (h : cnt x = 0) : lst x = (0, false) := by
  have h2 : byf x 256 = [] := List.eq_nil_of_length_eq_zero (by rw [byf_len x 256 (Nat.le_refl _)]; exact h)
  unfold lst; rw [h2]
theorem grt_zero (x : BitVec 256) (h : cnt x = 0) : grt x = (0, false) := by
  have h2 : bys x = [] := List.eq_nil_of_length_eq_zero (by rw [bys_len]; exact h)
  unfold grt; rw [h2]; rfl
theorem bys_bd (x : BitVec 256) (b : Int) (h : b ∈ bys x) : 0 ≤ b ∧ b < 256 := bysTo_bd x 256 b h
def lstF (f : List (Fin 256)) : Int × Bool := match f with
  | b :: _ => ((b.val : Int), true)
  | [] => (0, false)
theorem lst_head (f : List (Fin 256)) (l : List Int) (hv : f.map (fun b => (b.val : Int)) = l) (h0 : 0 < l.length) :
    lstF f = (l[0], true) := by
  cases f with
  | nil => subst hv; simp at h0
  | cons b t => subst hv; rfl
theorem lst_pos (x : BitVec 256) (h0 : 0 < (asText (bys x)).size) : lst x = (((asText (bys x))[0].toNat : Int), true) := by
  rw [asText_get _ 0 h0 (bys_bd x)]
  exact lst_head _ _ (byf_val x 256 (Nat.le_refl _)) (by rw [asText_size] at h0; exact h0)
theorem grt_pos (x : BitVec 256) (i : Nat) (hi : i + 1 = (asText (bys x)).size) (h0 : i < (asText (bys x)).size) : grt x = (((asText (bys x))[i].toNat : Int), true) := by
  rw [asText_get _ i h0 (bys_bd x)]
  rw [asText_size] at hi
  unfold grt
  generalize bys x = l at *
  have e : l.getLast? = some (l[i]'(by omega)) := by
    rw [List.getLast?_eq_getElem?, List.getElem?_eq_getElem (by omega)]
    congr 1
    have : l.length - 1 = i := by omega
    simp only [this]
  rw [e]

/-- The worlds of the law's first half. -/
structure At2 (w W : World) (x y : BitVec 256) : Prop where
  x : Holds W w.heap.size x
  y : Holds W (w.heap.size + 1) y
  b : Below w.heap.size w W
theorem At2.step {w W W' : World} {x y : BitVec 256} (h : At2 w W x y) (hb : Below W.heap.size W W') : At2 w W' x y :=
  ⟨h.x.below hb h.x.lt, h.y.below hb h.y.lt, h.b.trans (hb.mono h.b.size)⟩
theorem At2.drew {w W : World} {x y : BitVec 256} (h : At2 w W x y) : At2 w W.drew x y := ⟨h.x.drew, h.y.drew, h.b.drew⟩
theorem At2.start (w : World) (x y : BitVec 256) : At2 w ((w.alloc (c4 x)).alloc (c4 y)) x y := by
  have h := Holds.new (w.alloc (c4 x)) y
  rw [size1] at h
  exact ⟨(Holds.new w x).alloc _, h, below2 w (c4 x) (c4 y)⟩

set_option maxRecDepth 100000 in
set_option maxHeartbeats 4000000 in
theorem counts_zero (x y : BitVec 256) (w : World) (hc : cnt x = 0) :
    Calls Try.prog 5 #[sv x, sv y] w fun e w' => e = .returned (.bool true) ∧ Below w.heap.size w w' := by
  have HA := (show Hid _ from At2.start w x y)
  have hs : (asText (bys x)).size = 0 := by rw [asText_size, bys_len]; exact hc
  have e1 := emptyB_eq x
  have e2 := fullB_eq x
  have e3 := emptyB_eq (x &&& y)
  have e4 := withinB_eq x y
  rw [hc] at e1 e2
  have HL := (show Hid _ from lst_zero x hc)
  have HG := (show Hid _ from grt_zero x hc)
  have HS : Hid (sgl x = (0, false)) := (by show sgl x = _; unfold sgl; rw [if_neg (by omega)])
  have HC := (show Hid _ from hc)
  clear hc
  have HBY : Hid (∀ w, Calls Try.prog 26 #[sv x] w fun e w' => e = .returned (.string (asText (bys x))) ∧ Below w.heap.size w w') := bytesR_any x
  generalize asText (bys x) = s at *
  obtain ⟨⟨l0, c0, c1, c2, c3, _, _, _, _⟩, ⟨l1, d0, d1, d2, d3, _, _, _, _⟩, _⟩ := HA.out
  go_enter Try.func5, Try.ntmps5
  go_wp2_with fail
  refine (HBY.out _).mono ?_
  rintro e w1 ⟨rfl, hb⟩
  replace HA := (show Hid _ from HA.out.step hb)
  clear hb
  obtain ⟨⟨l0, c0, c1, c2, c3, _, _, _, _⟩, ⟨l1, d0, d1, d2, d3, _, _, _, _⟩, _⟩ := HA.out
  go_wp2_with fail
  refine (least_any x _).mono ?_
  rintro e w2 ⟨rfl, hb⟩
  replace HA := (show Hid _ from HA.out.step hb)
  clear hb
  obtain ⟨⟨l0, c0, c1, c2, c3, _, _, _, _⟩, ⟨l1, d0, d1, d2, d3, _, _, _, _⟩, _⟩ := HA.out
  rw [HL.out]
  dsimp only
  go_wp2_with fail
  refine (greatest_any x _).mono ?_
  rintro e w3 ⟨rfl, hb⟩
  replace HA := (show Hid _ from HA.out.step hb)
  clear hb
  obtain ⟨⟨l0, c0, c1, c2, c3, _, _, _, _⟩, ⟨l1, d0, d1, d2, d3, _, _, _, _⟩, _⟩ := HA.out
  rw [HG.out]
  dsimp only
  go_wp2_with fail
  refine (single_any x _).mono ?_
  rintro e w4 ⟨rfl, hb⟩
  replace HA := (show Hid _ from HA.out.step hb)
  clear hb
  obtain ⟨⟨l0, c0, c1, c2, c3, _, _, _, _⟩, ⟨l1, d0, d1, d2, d3, _, _, _, _⟩, _⟩ := HA.out
  rw [HS.out]
  dsimp only
  go_wp2_with fail
  refine (count_any x _).mono ?_
  rintro e w5 ⟨rfl, hb⟩
  replace HA := (show Hid _ from HA.out.step hb)
  clear hb
  obtain ⟨⟨l0, c0, c1, c2, c3, _, _, _, _⟩, ⟨l1, d0, d1, d2, d3, _, _, _, _⟩, _⟩ := HA.out
  rw [HC.out]
  go_wp2
  generalize w5 = W at *
  go_region_held3 (fun w' => w'.cell? ⟨w.heap.size, 0, none⟩ = some (.int .u64 (wd x 0)) ∧ w'.cell? ⟨w.heap.size, 1, none⟩ = some (.int .u64 (wd x 1)) ∧ w'.cell? ⟨w.heap.size, 2, none⟩ = some (.int .u64 (wd x 2)) ∧ w'.cell? ⟨w.heap.size, 3, none⟩ = some (.int .u64 (wd x 3)) ∧ w'.cell? ⟨w.heap.size + 1, 0, none⟩ = some (.int .u64 (wd y 0)) ∧ w'.cell? ⟨w.heap.size + 1, 1, none⟩ = some (.int .u64 (wd y 1)) ∧ w'.cell? ⟨w.heap.size + 1, 2, none⟩ = some (.int .u64 (wd y 2)) ∧ w'.cell? ⟨w.heap.size + 1, 3, none⟩ = some (.int .u64 (wd y 3))) (first | go_keep | (go_split_ands; refine ⟨?_, ?_, ?_, ?_, ?_, ?_, ?_, ?_⟩ <;> (rw [hb.cell (by simp <;> omega)]; first | assumption | simp [*]))) (first | (go_at_call 17; refine (meetR_any _ _ _).mono ?_; rintro e w1' ⟨rfl, hb⟩; have hz1 := hb.size; (try simp at hz1); have hA2 := (show At2 w w1' x y from (by first | exact HA.out.step hb | exact HA.out.drew.step hb)); replace HA := (show Hid _ from hA2)) | (go_at_call 19; refine (lessR_any _ _ _).mono ?_; rintro e w1' ⟨rfl, hb⟩; have hz1 := hb.size; (try simp at hz1); have hA2 := (show At2 w w1' x y from (by first | exact HA.out.step hb | exact HA.out.drew.step hb)); replace HA := (show Hid _ from hA2)) | (go_at_call 31; refine (countR_any _ _).mono ?_; rintro e w1' ⟨rfl, hb⟩; have hz1 := hb.size; (try simp at hz1); have hA2 := (show At2 w w1' x y from (by first | exact HA.out.step hb | exact HA.out.drew.step hb)); replace HA := (show Hid _ from hA2)))
  go_wp2_with fail
  clear hb
  go_wp2_with fail
  refine (emptyB_any x _).mono ?_
  rintro e w6 ⟨rfl, hb⟩
  replace HA := (show Hid _ from HA.out.step hb)
  clear hb
  obtain ⟨⟨l0, c0, c1, c2, c3, _, _, _, _⟩, ⟨l1, d0, d1, d2, d3, _, _, _, _⟩, _⟩ := HA.out
  go_wp2_with fail
  refine (fullB_any x _).mono ?_
  rintro e w7 ⟨rfl, hb⟩
  replace HA := (show Hid _ from HA.out.step hb)
  clear hb
  obtain ⟨⟨l0, c0, c1, c2, c3, _, _, _, _⟩, ⟨l1, d0, d1, d2, d3, _, _, _, _⟩, _⟩ := HA.out
  go_wp2_with fail
  refine (apartB_any x y _).mono ?_
  rintro e w8 ⟨rfl, hb⟩
  replace HA := (show Hid _ from HA.out.step hb)
  clear hb
  obtain ⟨⟨l0, c0, c1, c2, c3, _, _, _, _⟩, ⟨l1, d0, d1, d2, d3, _, _, _, _⟩, _⟩ := HA.out
  go_wp2_with fail
  refine (withinB_any x y _).mono ?_
  rintro e w9 ⟨rfl, hb⟩
  replace HA := (show Hid _ from HA.out.step hb)
  clear hb
  obtain ⟨⟨l0, c0, c1, c2, c3, _, _, _, _⟩, ⟨l1, d0, d1, d2, d3, _, _, _, _⟩, _⟩ := HA.out
  go_wp2
  go_ret
  exact ⟨rfl, HA.out.b⟩

theorem counts_pre (x : BitVec 256) : ∃ s : ByteArray, Hid (∀ w, Calls Try.prog 26 #[sv x] w fun e w' => e = .returned (.string s) ∧ Below w.heap.size w w') ∧ Hid (s.size = cnt x) ∧
    (∀ h : 0 < s.size, lst x = (((s[0]'h).toNat : Int), true)) ∧ (∀ (i : Nat) (hi : i + 1 = s.size), grt x = (((s[i]'(by omega)).toNat : Int), true)) :=
  ⟨asText (bys x), bytesR_any x, (by show (asText (bys x)).size = cnt x; rw [asText_size, bys_len]), lst_pos x, fun i hi => grt_pos x i hi (by omega)⟩

set_option maxRecDepth 100000 in
set_option maxHeartbeats 4000000 in
theorem counts_one (x y : BitVec 256) (w : World) (hc : cnt x = 1) :
    Calls Try.prog 5 #[sv x, sv y] w fun e w' => e = .returned (.bool true) ∧ Below w.heap.size w w' := by
  have HA := (show Hid _ from At2.start w x y)
  obtain ⟨s, HBY, HZ, hL, hG⟩ := counts_pre x
  have e1 := emptyB_eq x
  have e2 := fullB_eq x
  have e3 := emptyB_eq (x &&& y)
  have e4 := withinB_eq x y
  have hs : s.size = 1 := by rw [HZ.out]; exact hc
  have h0 : 0 < s.size := by omega
  have HL := (show Hid _ from hL h0)
  have HG := (show Hid _ from hG 0 (by omega))
  have HS : Hid (sgl x = lst x) := (by show sgl x = _; unfold sgl; rw [if_pos hc])
  replace HS := (show Hid _ from HS.out.trans HL.out)
  rw [hc] at e1 e2
  have HC := (show Hid _ from hc)
  have h8 : ((s[0]'h0).toNat : Int) < 256 := by have := (s[0]'h0).toNat_lt; omega
  have hw8 : IntKind.i64.wrap ((s[0]'h0).toNat : Int) = ((s[0]'h0).toNat : Int) := by rw [IntKind.wrap_i64]; omega
  clear hc hL hG HZ
  obtain ⟨⟨l0, c0, c1, c2, c3, _, _, _, _⟩, ⟨l1, d0, d1, d2, d3, _, _, _, _⟩, _⟩ := HA.out
  go_enter Try.func5, Try.ntmps5
  go_wp2_with fail
  refine (HBY.out _).mono ?_
  rintro e w1 ⟨rfl, hb⟩
  replace HA := (show Hid _ from HA.out.step hb)
  clear hb
  obtain ⟨⟨l0, c0, c1, c2, c3, _, _, _, _⟩, ⟨l1, d0, d1, d2, d3, _, _, _, _⟩, _⟩ := HA.out
  go_wp2_with fail
  refine (least_any x _).mono ?_
  rintro e w2 ⟨rfl, hb⟩
  replace HA := (show Hid _ from HA.out.step hb)
  clear hb
  obtain ⟨⟨l0, c0, c1, c2, c3, _, _, _, _⟩, ⟨l1, d0, d1, d2, d3, _, _, _, _⟩, _⟩ := HA.out
  rw [HL.out]
  dsimp only
  go_wp2_with fail
  refine (greatest_any x _).mono ?_
  rintro e w3 ⟨rfl, hb⟩
  replace HA := (show Hid _ from HA.out.step hb)
  clear hb
  obtain ⟨⟨l0, c0, c1, c2, c3, _, _, _, _⟩, ⟨l1, d0, d1, d2, d3, _, _, _, _⟩, _⟩ := HA.out
  rw [HG.out]
  dsimp only
  go_wp2_with fail
  refine (single_any x _).mono ?_
  rintro e w4 ⟨rfl, hb⟩
  replace HA := (show Hid _ from HA.out.step hb)
  clear hb
  obtain ⟨⟨l0, c0, c1, c2, c3, _, _, _, _⟩, ⟨l1, d0, d1, d2, d3, _, _, _, _⟩, _⟩ := HA.out
  rw [HS.out]
  dsimp only
  go_wp2_with fail
  refine (count_any x _).mono ?_
  rintro e w5 ⟨rfl, hb⟩
  replace HA := (show Hid _ from HA.out.step hb)
  clear hb
  obtain ⟨⟨l0, c0, c1, c2, c3, _, _, _, _⟩, ⟨l1, d0, d1, d2, d3, _, _, _, _⟩, _⟩ := HA.out
  rw [HC.out]
  go_wp2
  generalize w5 = W at *
  go_region_held3 (fun w' => w'.cell? ⟨w.heap.size, 0, none⟩ = some (.int .u64 (wd x 0)) ∧ w'.cell? ⟨w.heap.size, 1, none⟩ = some (.int .u64 (wd x 1)) ∧ w'.cell? ⟨w.heap.size, 2, none⟩ = some (.int .u64 (wd x 2)) ∧ w'.cell? ⟨w.heap.size, 3, none⟩ = some (.int .u64 (wd x 3)) ∧ w'.cell? ⟨w.heap.size + 1, 0, none⟩ = some (.int .u64 (wd y 0)) ∧ w'.cell? ⟨w.heap.size + 1, 1, none⟩ = some (.int .u64 (wd y 1)) ∧ w'.cell? ⟨w.heap.size + 1, 2, none⟩ = some (.int .u64 (wd y 2)) ∧ w'.cell? ⟨w.heap.size + 1, 3, none⟩ = some (.int .u64 (wd y 3))) (first | go_keep | (go_split_ands; refine ⟨?_, ?_, ?_, ?_, ?_, ?_, ?_, ?_⟩ <;> (rw [hb.cell (by simp <;> omega)]; first | assumption | simp [*]))) (first | (go_at_call 17; refine (meetR_any _ _ _).mono ?_; rintro e w1' ⟨rfl, hb⟩; have hz1 := hb.size; (try simp at hz1); have hA2 := (show At2 w w1' x y from (by first | exact HA.out.step hb | exact HA.out.drew.step hb)); replace HA := (show Hid _ from hA2)) | (go_at_call 19; refine (lessR_any _ _ _).mono ?_; rintro e w1' ⟨rfl, hb⟩; have hz1 := hb.size; (try simp at hz1); have hA2 := (show At2 w w1' x y from (by first | exact HA.out.step hb | exact HA.out.drew.step hb)); replace HA := (show Hid _ from hA2)) | (go_at_call 31; refine (countR_any _ _).mono ?_; rintro e w1' ⟨rfl, hb⟩; have hz1 := hb.size; (try simp at hz1); have hA2 := (show At2 w w1' x y from (by first | exact HA.out.step hb | exact HA.out.drew.step hb)); replace HA := (show Hid _ from hA2)))
  go_wp2_with fail
  clear hb
  go_wp2_with fail
  refine (emptyB_any x _).mono ?_
  rintro e w6 ⟨rfl, hb⟩
  replace HA := (show Hid _ from HA.out.step hb)
  clear hb
  obtain ⟨⟨l0, c0, c1, c2, c3, _, _, _, _⟩, ⟨l1, d0, d1, d2, d3, _, _, _, _⟩, _⟩ := HA.out
  go_wp2_with fail
  refine (fullB_any x _).mono ?_
  rintro e w7 ⟨rfl, hb⟩
  replace HA := (show Hid _ from HA.out.step hb)
  clear hb
  obtain ⟨⟨l0, c0, c1, c2, c3, _, _, _, _⟩, ⟨l1, d0, d1, d2, d3, _, _, _, _⟩, _⟩ := HA.out
  go_wp2_with fail
  refine (apartB_any x y _).mono ?_
  rintro e w8 ⟨rfl, hb⟩
  replace HA := (show Hid _ from HA.out.step hb)
  clear hb
  obtain ⟨⟨l0, c0, c1, c2, c3, _, _, _, _⟩, ⟨l1, d0, d1, d2, d3, _, _, _, _⟩, _⟩ := HA.out
  go_wp2_with fail
  refine (withinB_any x y _).mono ?_
  rintro e w9 ⟨rfl, hb⟩
  replace HA := (show Hid _ from HA.out.step hb)
  clear hb
  obtain ⟨⟨l0, c0, c1, c2, c3, _, _, _, _⟩, ⟨l1, d0, d1, d2, d3, _, _, _, _⟩, _⟩ := HA.out
  go_wp2
  go_ret
  exact ⟨rfl, HA.out.b⟩

set_option maxRecDepth 100000 in
set_option maxHeartbeats 4000000 in
theorem counts_more (x y : BitVec 256) (w : World) (m : Nat) (hc : cnt x = m + 2) :
    Calls Try.prog 5 #[sv x, sv y] w fun e w' => e = .returned (.bool true) ∧ Below w.heap.size w w' := by
  have HA := (show Hid _ from At2.start w x y)
  obtain ⟨s, HBY, HZ, hL, hG⟩ := counts_pre x
  have e1 := emptyB_eq x
  have e2 := fullB_eq x
  have e3 := emptyB_eq (x &&& y)
  have e4 := withinB_eq x y
  have hs : s.size = m + 2 := by rw [HZ.out]; exact hc
  have h0 : 0 < s.size := by omega
  have h1 : m + 1 < s.size := by omega
  have HL := (show Hid _ from hL h0)
  have HG := (show Hid _ from hG (m + 1) (by omega))
  have HS : Hid (sgl x = (0, false)) := (by show sgl x = _; unfold sgl; rw [if_neg (by omega)])
  rw [hc] at e1 e2
  have HC := (show Hid _ from hc)
  have hle := cnt_le x
  have hm : m + 2 ≤ 256 := by omega
  have hw8 : IntKind.i64.wrap ((s[0]'h0).toNat : Int) = ((s[0]'h0).toNat : Int) := by have := (s[0]'h0).toNat_lt; rw [IntKind.wrap_i64]; omega
  have hw9 : IntKind.i64.wrap ((s[m + 1]'h1).toNat : Int) = ((s[m + 1]'h1).toNat : Int) := by have := (s[m + 1]'h1).toNat_lt; rw [IntKind.wrap_i64]; omega
  have n1 : (((m + 2 : Nat) : Int) == 0) = false := beq_eq_false_iff_ne.2 (by omega)
  have n2 : (((m + 2 : Nat) : Int) == 1) = false := beq_eq_false_iff_ne.2 (by omega)
  have n3 : decide ((0 : Int) < ((m + 2 : Nat) : Int)) = true := decide_eq_true (by omega)
  clear hc hL hG HZ hle
  obtain ⟨⟨l0, c0, c1, c2, c3, _, _, _, _⟩, ⟨l1, d0, d1, d2, d3, _, _, _, _⟩, _⟩ := HA.out
  go_enter Try.func5, Try.ntmps5
  go_wp2_with fail
  refine (HBY.out _).mono ?_
  rintro e w1 ⟨rfl, hb⟩
  replace HA := (show Hid _ from HA.out.step hb)
  clear hb
  obtain ⟨⟨l0, c0, c1, c2, c3, _, _, _, _⟩, ⟨l1, d0, d1, d2, d3, _, _, _, _⟩, _⟩ := HA.out
  go_wp2_with fail
  refine (least_any x _).mono ?_
  rintro e w2 ⟨rfl, hb⟩
  replace HA := (show Hid _ from HA.out.step hb)
  clear hb
  obtain ⟨⟨l0, c0, c1, c2, c3, _, _, _, _⟩, ⟨l1, d0, d1, d2, d3, _, _, _, _⟩, _⟩ := HA.out
  rw [HL.out]
  dsimp only
  go_wp2_with fail
  refine (greatest_any x _).mono ?_
  rintro e w3 ⟨rfl, hb⟩
  replace HA := (show Hid _ from HA.out.step hb)
  clear hb
  obtain ⟨⟨l0, c0, c1, c2, c3, _, _, _, _⟩, ⟨l1, d0, d1, d2, d3, _, _, _, _⟩, _⟩ := HA.out
  rw [HG.out]
  dsimp only
  go_wp2_with fail
  refine (single_any x _).mono ?_
  rintro e w4 ⟨rfl, hb⟩
  replace HA := (show Hid _ from HA.out.step hb)
  clear hb
  obtain ⟨⟨l0, c0, c1, c2, c3, _, _, _, _⟩, ⟨l1, d0, d1, d2, d3, _, _, _, _⟩, _⟩ := HA.out
  rw [HS.out]
  dsimp only
  go_wp2_with fail
  refine (count_any x _).mono ?_
  rintro e w5 ⟨rfl, hb⟩
  replace HA := (show Hid _ from HA.out.step hb)
  clear hb
  obtain ⟨⟨l0, c0, c1, c2, c3, _, _, _, _⟩, ⟨l1, d0, d1, d2, d3, _, _, _, _⟩, _⟩ := HA.out
  rw [HC.out]
  go_wp2
  generalize w5 = W at *
  go_region_held3 (fun w' => w'.cell? ⟨w.heap.size, 0, none⟩ = some (.int .u64 (wd x 0)) ∧ w'.cell? ⟨w.heap.size, 1, none⟩ = some (.int .u64 (wd x 1)) ∧ w'.cell? ⟨w.heap.size, 2, none⟩ = some (.int .u64 (wd x 2)) ∧ w'.cell? ⟨w.heap.size, 3, none⟩ = some (.int .u64 (wd x 3)) ∧ w'.cell? ⟨w.heap.size + 1, 0, none⟩ = some (.int .u64 (wd y 0)) ∧ w'.cell? ⟨w.heap.size + 1, 1, none⟩ = some (.int .u64 (wd y 1)) ∧ w'.cell? ⟨w.heap.size + 1, 2, none⟩ = some (.int .u64 (wd y 2)) ∧ w'.cell? ⟨w.heap.size + 1, 3, none⟩ = some (.int .u64 (wd y 3))) (first | go_keep | (go_split_ands; refine ⟨?_, ?_, ?_, ?_, ?_, ?_, ?_, ?_⟩ <;> (rw [hb.cell (by simp <;> omega)]; first | assumption | simp [*]))) (first | (go_at_call 17; refine (meetR_any _ _ _).mono ?_; rintro e w1' ⟨rfl, hb⟩; have hz1 := hb.size; (try simp at hz1); have hA2 := (show At2 w w1' x y from (by first | exact HA.out.step hb | exact HA.out.drew.step hb)); replace HA := (show Hid _ from hA2)) | (go_at_call 19; refine (lessR_any _ _ _).mono ?_; rintro e w1' ⟨rfl, hb⟩; have hz1 := hb.size; (try simp at hz1); have hA2 := (show At2 w w1' x y from (by first | exact HA.out.step hb | exact HA.out.drew.step hb)); replace HA := (show Hid _ from hA2)) | (go_at_call 31; refine (countR_any _ _).mono ?_; rintro e w1' ⟨rfl, hb⟩; have hz1 := hb.size; (try simp at hz1); have hA2 := (show At2 w w1' x y from (by first | exact HA.out.step hb | exact HA.out.drew.step hb)); replace HA := (show Hid _ from hA2)))
  go_wp2_with fail
  clear hb
  go_wp2_with fail
  refine (emptyB_any x _).mono ?_
  rintro e w6 ⟨rfl, hb⟩
  replace HA := (show Hid _ from HA.out.step hb)
  clear hb
  obtain ⟨⟨l0, c0, c1, c2, c3, _, _, _, _⟩, ⟨l1, d0, d1, d2, d3, _, _, _, _⟩, _⟩ := HA.out
  go_wp2_with fail
  refine (fullB_any x _).mono ?_
  rintro e w7 ⟨rfl, hb⟩
  replace HA := (show Hid _ from HA.out.step hb)
  clear hb
  obtain ⟨⟨l0, c0, c1, c2, c3, _, _, _, _⟩, ⟨l1, d0, d1, d2, d3, _, _, _, _⟩, _⟩ := HA.out
  go_wp2_with fail
  refine (apartB_any x y _).mono ?_
  rintro e w8 ⟨rfl, hb⟩
  replace HA := (show Hid _ from HA.out.step hb)
  clear hb
  obtain ⟨⟨l0, c0, c1, c2, c3, _, _, _, _⟩, ⟨l1, d0, d1, d2, d3, _, _, _, _⟩, _⟩ := HA.out
  go_wp2_with fail
  refine (withinB_any x y _).mono ?_
  rintro e w9 ⟨rfl, hb⟩
  replace HA := (show Hid _ from HA.out.step hb)
  clear hb
  obtain ⟨⟨l0, c0, c1, c2, c3, _, _, _, _⟩, ⟨l1, d0, d1, d2, d3, _, _, _, _⟩, _⟩ := HA.out
  go_wp2
  go_ret
  exact ⟨rfl, HA.out.b⟩

theorem charsetCounts_any (x y : BitVec 256) (w : World) :
    Calls Try.prog 5 #[sv x, sv y] w fun e w' => e = .returned (.bool true) ∧ Below w.heap.size w w' := by
  by_cases h0 : cnt x = 0
  · exact counts_zero x y w h0
  · by_cases h1 : cnt x = 1
    · exact counts_one x y w h1
    · exact counts_more x y w (cnt x - 2) (by omega)
end Go.Proofs.Ytlcmlipldkpliaa
