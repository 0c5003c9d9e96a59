/- DERIVED. Walks: Part, by the program and by the document; Copy. -/
import Derived.Test.YtfomodpjdaclgabChA
import Derived.Test.YtfomodpjdaclgabRfA
import Derived.Test.YtfomodpjdaclgabKdA
namespace Go.Proofs.Ytfomodpjdaclgab
open Go.RowKit

/-- A part of a list. -/
def cutL (L : List Nd) (b e : Nat) : List Nd := (L.drop b).take (e - b)
theorem cutL_len {L : List Nd} {b e : Nat} (_h : b ≤ e) (he : e ≤ L.length) : (cutL L b e).length = e - b := by unfold cutL; rw [List.length_take, List.length_drop]; omega
theorem sub_rd {W : World} {g o : Nat} {L : List Nd} (h : NdL W g o L) (lg : g < W.heap.size) (b e : Nat) : RdN W (some ⟨g, o + b * 7, none⟩) (cutL L b e) := fun _ => ⟨g, o + b * 7, rfl, lg, fun j n hj => by
  unfold cutL at hj
  rw [List.getElem?_take] at hj
  split at hj
  · rw [List.getElem?_drop] at hj
    have := h (b + j) n hj
    rw [show o + b * 7 + j * 7 = o + (b + j) * 7 from by omega]
    exact this
  · cases hj⟩
theorem pt_le {L : List Nd} (hr : Rt L) {j : Nat} (hj : j < L.length) : (pt L j).1 ≤ j := by
  have h := chn_run L (j + 1) (by omega) (fun i hi => hr.each i (by omega))
  rw [run_succ] at h
  have h1 := h.2.2.1
  rw [show (pt L j).2.1 = j from mk_last _ _ _ _] at h1
  exact h1
/-- A pattern that is an answer. -/
def PrV (w w' : World) (L : List Nd) (at' : Int) (e : Ending) : Prop := ∃ v, e = .returned (.tuple #[v, .int .i64 (fdE L at')]) ∧ ((fdE L at' ≠ 0 ∧ v = .slice none 0 0) ∨ (fdE L at' = 0 ∧ w'.ownsRow w.heap.size 37 7 v (cutL L (pt L at'.toNat).1 (at'.toNat + 1)).length (ndc (cutL L (pt L at'.toNat).1 (at'.toNat + 1)))))

set_option maxRecDepth 100000 in
set_option maxHeartbeats 4000000 in
theorem part_any (L : List Nd) (Ap : Option Addr) (cp : Nat) (at' : Int) (hcp : L.length ≤ cp) (hL : L.length ≤ 140737488355328) (hT : ∀ n ∈ L, n.tx.size ≤ 140737488355328) (w : World) (hp : RdN w Ap L) :
    Calls Try.prog 11 #[.slice Ap L.length cp, .int .i64 at'] w fun e w' => PrV w w' L at' e ∧ Below w.heap.size w w' := by
  have HF : Hid (∀ _ : Unit, Calls Try.prog 23 #[.slice Ap L.length cp, .int .i64 at'] w fun e w' => FdV w w' L at' e ∧ Below w.heap.size w w') := fun _ => find_any L Ap cp at' hL hT w hp
  have HP := (show Hid (RdN w Ap L) from hp)
  clear hp hT
  go_enter Try.func11, Try.ntmps11
  go_wp2_with fail
  refine (HF.out ()).mono ?_
  rintro e w2 ⟨hv, b2⟩
  have HB := (show Hid (Below w.heap.size w w2) from b2)
  clear HF b2
  rcases hv with ⟨h0, rfl⟩ | ⟨h0, hr, j, hj, hjl, v, rfl, _⟩
  · have HI := (show Hid (fdE L at' ≠ 0) from h0)
    have t1 : (fdE L at' != 0) = true := by rw [bne, beq_eq_false_iff_ne.2 h0]; rfl
    clear h0 HP
    go_wp2_with fail
    go_ret2
    exact ⟨⟨_, rfl, .inl ⟨HI.out, rfl⟩⟩, HB.out.alloc HB.out.size _⟩
  · obtain ⟨gp, op, rfl, lp, cl⟩ := HP.out (by rintro rfl; simp at hjl)
    have hpl := pt_le hr hjl
    have hlen := hr.len
    have hq := sub_rd (cl.same (HB.out.block gp lp)) (Nat.lt_of_lt_of_le lp HB.out.size) (pt L j).1 (j + 1)
    have hcl := cutL_len (L := L) (b := (pt L j).1) (e := j + 1) (by omega) (by omega)
    obtain ⟨W3, hW3⟩ : ∃ W3, W3 = (w2.alloc (.cells #[.int .i64 (pt L j).1, .int .i64 (pt L j).2.1, .int .i64 (pt L j).2.2] 52)).alloc (.cells #[.slice (some ⟨gp, op + (pt L j).1 * 7, none⟩) (j + 1 - (pt L j).1) (cp - (pt L j).1)] 23) := ⟨_, rfl⟩
    have hB3 : Below w2.heap.size w2 W3 := by rw [hW3]; exact (below_box w2 _).alloc (below_box w2 _).size _
    have HCh : Hid (∀ _ : Unit, Calls Try.prog 24 #[.slice (some ⟨w2.heap.size + 1, 0, none⟩) 1 1] W3 fun e w' => (∃ v, e = .returned v ∧ w'.ownsRow W3.heap.size 37 7 v (cutL L (pt L j).1 (j + 1)).length (ndc (cutL L (pt L j).1 (j + 1)))) ∧ Below W3.heap.size W3 w') := fun _ => by
      have h := chain_any [(some ⟨gp, op + (pt L j).1 * 7, none⟩, cp - (pt L j).1, cutL L (pt L j).1 (j + 1))] (w2.heap.size + 1) 0 1 (by simp) (by intro p hp; cases List.mem_singleton.1 hp; show (cutL L _ _).length ≤ 2048; rw [hcl]; omega) W3 (fun i p hp => by
        cases i with
        | succ i => simp at hp
        | zero =>
          cases hp
          refine ⟨?_, hq.below hB3 (Nat.le_refl _)⟩
          have hh := heap_alloc_new (w2.alloc (.cells #[.int .i64 (pt L j).1, .int .i64 (pt L j).2.1, .int .i64 (pt L j).2.2] 52)) (.cells #[.slice (some ⟨gp, op + (pt L j).1 * 7, none⟩) (j + 1 - (pt L j).1) (cp - (pt L j).1)] 23)
          rw [World.size_alloc] at hh
          rw [hW3, Nat.zero_add, cell_of_row _ (w2.heap.size + 1) 0 _ 23 (0, 0) hh]
          show some _ = some (Value.slice _ (cutL L _ _).length _)
          rw [hcl]; rfl)
      have hfl : flatL [((some ⟨gp, op + (pt L j).1 * 7, none⟩ : Option Addr), cp - (pt L j).1, cutL L (pt L j).1 (j + 1))] = cutL L (pt L j).1 (j + 1) := by simp [flatL]
      rw [hfl] at h
      exact h
    have HB3 := (show Hid (Below w.heap.size w W3) from HB.out.trans (hB3.mono HB.out.size))
    have HI := (show Hid (fdE L at' = 0 ∧ at' = j) from ⟨h0, hj⟩)
    subst hj
    have hcb : ¬ cp = (pt L j).1 := by omega
    have z0 : (0 : Int) ≤ ((pt L j).1 : Int) := by omega
    have z1 : ((pt L j).1 : Int) ≤ (j : Int) + 1 := by omega
    have z2 : (j : Int) + 1 ≤ (cp : Int) := by omega
    clear h0 hr cl hq hcl hB3 HP HB
    go_wp2_with fail
    rw [← hW3]
    refine (HCh.out ()).mono ?_
    rintro e w5 ⟨⟨v5, rfl, ho⟩, b5⟩
    have HO := (show Hid (w5.ownsRow w.heap.size 37 7 v5 (cutL L (pt L j).1 (j + 1)).length (ndc (cutL L (pt L j).1 (j + 1)))) from own_base ho HB3.out.size)
    have HB5 := (show Hid (Below w.heap.size w w5) from HB3.out.trans (b5.mono HB3.out.size))
    clear HCh ho b5 HB3 hW3
    go_wp2_with fail
    go_ret2
    exact ⟨⟨v5, by rw [HI.out.1]; rfl, .inr ⟨HI.out.1, HO.out⟩⟩, HB5.out⟩

set_option maxRecDepth 100000 in
set_option maxHeartbeats 4000000 in
theorem copy_any (ad : Addr) (c : Nat) (L : List Nd) (w : World) (hl : L.length ≤ 2048) (hc : RdN w (some ad) L) :
    Calls Try.prog 32 #[.slice (some ad) L.length c] w fun e w' => (∃ v, e = .returned v ∧ w'.ownsRow w.heap.size 37 7 v L.length (ndc L)) ∧ Below w.heap.size w w' := by
  obtain ⟨i0, hinf, hz0, hz1, hz2⟩ := info_parts Try.info43
  have hO := own_empty w
  have HB := (show Hid (Below w.heap.size w (w.alloc (.cells #[] 37))) from below_box _ _)
  have HC := (show Hid (∀ (j : Nat) u, (ndc L)[j]? = some u → (w.alloc (.cells #[] 37)).cell? (ad.add j) = some u) from fun j u hj => by
    have h1 := in_cells hc j u hj
    have h2 := World.block_lt_of_cell? w _ h1
    exact ((below_box w (.cells #[] 37)).cell (p := ad.add j) h2).trans h1)
  have HI := (show Hid ((ndc L).length = L.length * 7 ∧ ∀ u ∈ ndc L, u.oneCell' = true) from ⟨ndc_len L, ndc_cell L⟩)
  clear hc
  go_enter Try.func32, Try.ntmps32
  go_wp2_with (at_builtin; refine wpList_append_own _ rfl _ _ 23 rfl w.heap.size 37 i0 zA 7 64 Try.underlying23 hinf hz0 hz1 hz2 rfl (by decide) _ _ _ rfl hO ad L.length c (ndc L) rfl HI.out.1 HC.out HI.out.2 ?c3 ?c4 ?c5 ?_)
  case c3 => unfold maxLen; omega
  case c4 => omega
  case c5 => simp
  intro v1 w1 hown hgrow _
  have HB1 := (show Hid (Below w.heap.size w w1) from HB.out.grown hgrow (by simp) (fun k e => (hO.lt k e).1))
  have HO := (show Hid (w1.ownsRow w.heap.size 37 7 v1 L.length (ndc L)) from hown)
  clear hgrow hO HB hown HC HI
  go_wp2_with fail
  go_ret
  exact ⟨⟨_, rfl, HO.out⟩, HB1.out⟩

set_option maxRecDepth 100000 in
set_option maxHeartbeats 4000000 in
theorem partR_any (L : List Nd) (Ap : Option Addr) (cp : Nat) (at' : Int) (hcp : L.length ≤ cp) (hL : L.length ≤ 140737488355328) (hT : ∀ n ∈ L, n.tx.size ≤ 140737488355328) (w : World) (hp : RdN w Ap L) :
    Calls Try.prog 17 #[.slice Ap L.length cp, .int .i64 at'] w fun e w' => PrV w w' L at' e ∧ Below w.heap.size w w' := by
  have HF : Hid (∀ _ : Unit, Calls Try.prog 31 #[.slice Ap L.length cp, .int .i64 at'] w fun e w' => e = .returned (.tuple #[.int .i64 (bgE L at'), .int .i64 (fdE L at')]) ∧ Below w.heap.size w w') := fun _ => beginR_any L Ap cp at' hL hT w hp
  have HP := (show Hid (RdN w Ap L) from hp)
  clear hp hT
  go_enter Try.func17, Try.ntmps17
  go_wp2_with fail
  refine (HF.out ()).mono ?_
  rintro e w2 ⟨rfl, b2⟩
  have HB := (show Hid (Below w.heap.size w w2) from b2)
  clear HF b2
  by_cases h0 : fdE L at' = 0
  · obtain ⟨hr, j, hj, hjl⟩ := fdE_ok h0
    obtain ⟨gp, op, rfl, lp, cl⟩ := HP.out (by rintro rfl; simp at hjl)
    have hpl := pt_le hr hjl
    have hlen := hr.len
    have hq := sub_rd (cl.same (HB.out.block gp lp)) (Nat.lt_of_lt_of_le lp HB.out.size) (pt L j).1 (j + 1)
    have hcl := cutL_len (L := L) (b := (pt L j).1) (e := j + 1) (by omega) (by omega)
    have HCo : Hid (∀ _ : Unit, Calls Try.prog 32 #[.slice (some ⟨gp, op + (pt L j).1 * 7, none⟩) (j + 1 - (pt L j).1) (cp - (pt L j).1)] w2 fun e w' => (∃ v, e = .returned v ∧ w'.ownsRow w2.heap.size 37 7 v (cutL L (pt L j).1 (j + 1)).length (ndc (cutL L (pt L j).1 (j + 1)))) ∧ Below w2.heap.size w2 w') := fun _ => by
      have h := copy_any ⟨gp, op + (pt L j).1 * 7, none⟩ (cp - (pt L j).1) (cutL L (pt L j).1 (j + 1)) w2 (by rw [hcl]; omega) hq
      rw [hcl] at h ⊢
      exact h
    have HI := (show Hid (fdE L at' = 0 ∧ at' = j) from ⟨h0, hj⟩)
    have hbg : bgE L at' = ((pt L j).1 : Int) := by unfold bgE; rw [if_pos h0, hj]; rfl
    have t1 : (fdE L at' != 0) = false := by rw [h0]; rfl
    rw [hbg]
    subst hj
    have hcb : ¬ cp = (pt L j).1 := by omega
    have z0 : (0 : Int) ≤ ((pt L j).1 : Int) := by omega
    have z1 : ((pt L j).1 : Int) ≤ (j : Int) + 1 := by omega
    have z2 : (j : Int) + 1 ≤ (cp : Int) := by omega
    clear h0 hr cl hq hcl HP hbg
    go_wp2_with fail
    refine (HCo.out ()).mono ?_
    rintro e w5 ⟨⟨v5, rfl, ho⟩, b5⟩
    have HO := (show Hid (w5.ownsRow w.heap.size 37 7 v5 (cutL L (pt L j).1 (j + 1)).length (ndc (cutL L (pt L j).1 (j + 1)))) from own_base ho HB.out.size)
    have HB5 := (show Hid (Below w.heap.size w w5) from HB.out.trans (b5.mono HB.out.size))
    clear HCo ho b5 HB
    go_wp2_with fail
    go_ret2
    exact ⟨⟨v5, by rw [HI.out.1]; rfl, .inr ⟨HI.out.1, HO.out⟩⟩, HB5.out⟩
  · have HI := (show Hid (fdE L at' ≠ 0) from h0)
    have t1 : (fdE L at' != 0) = true := by rw [bne, beq_eq_false_iff_ne.2 h0]; rfl
    clear h0 HP
    go_wp2_with fail
    go_ret2
    exact ⟨⟨_, rfl, .inl ⟨HI.out, rfl⟩⟩, HB.out⟩
end Go.Proofs.Ytfomodpjdaclgab
