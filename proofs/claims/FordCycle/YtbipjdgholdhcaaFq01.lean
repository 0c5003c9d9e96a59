/- FordCycle (10.4): of any grammar, where the program says that it has a cycle, that is one (each rule a head of the one ahead, the first one the least, none twice); where it says that it has a loop, that is the first one; for grammars within the reach of the form. -/
import Derived.Laws.AppendOwnNone
import Derived.Test.YtbipjdgholdhcaaRows
import Derived.Test.YtbipjdgholdhcaaFp13
namespace Go.Proofs.Ytbipjdgholdhcaa.N
open Go.RowKit
/-- Whoever stands on a cycle comes back to itself. -/
theorem PtI.back {n : Nat} {c : Mx} (hc : ∀ i j, c i j = true → i < n ∧ j < n) {r m : Nat} {l : List Nat} (h : PtI c r m l) (hd : Ds c r m r) : ∀ (i x : Nat), l[i]? = some x → Rc n c x x := by
  have fwd : ∀ (i x : Nat), l[i]? = some x → x = r ∨ Rc n c r x := by
    intro i
    induction i with
    | zero =>
      intro x hx
      rw [h.h] at hx
      cases hx
      exact .inl rfl
    | succ i ih =>
      intro x hx
      have hi := (List.getElem?_eq_some_iff.1 hx).1
      have e : l[i]? = some l[i] := List.getElem?_eq_getElem (by omega)
      have h1 := (h.s i _ x e hx).1
      rcases ih _ e with q | q
      · rw [q] at h1; exact .inr (Rc.of h1)
      · exact .inr (Rc.trans (hc _ _ h1).1 q (Rc.of h1))
  intro i x hx
  have hb := (h.ds hd hx).rc hc
  rcases fwd i x hx with q | q
  · rw [q]; rw [q] at hb; exact hb
  · exact Rc.trans (hd.lt hc).1 hb q
theorem PtI.nd {c : Mx} {r m : Nat} {l : List Nat} (h : PtI c r m l) (hd : Ds c r m r) {i j x : Nat} (hi : l[i]? = some x) (hj : l[j]? = some x) : i = j := by
  have a := (List.getElem?_eq_some_iff.1 hi).1
  have b := (List.getElem?_eq_some_iff.1 hj).1
  have := (h.ds hd hi).one (h.ds hd hj)
  rw [h.n] at a b
  omega
/-- The last one leads to the first. -/
theorem PtI.last {c : Mx} {r m : Nat} {l : List Nat} (h : PtI c r m l) (hd : Ds c r m r) {x : Nat} (hx : l[m - 1]? = some x) : c x r = true := by
  have m0 := hd.1
  have := h.ds hd hx
  rw [show m - (m - 1) = 1 from by omega] at this
  exact Ds.first.1 this
end Go.Proofs.Ytbipjdgholdhcaa.N

namespace Go.Proofs.Ytbipjdgholdhcaa.T
open Go.RowKit
theorem own_cap {W : World} {B e size n : Nat} {g cap : Nat} {xs : List Value} (h : W.ownsRow B e size (.slice (some ⟨g, 0, none⟩) n cap) n xs) : n ≤ cap := by
  rcases h.2 with ⟨q, _⟩ | ⟨g2, c2, cur, q, _, _, h3, _⟩
  · cases q
  · cases q; exact h3
end Go.Proofs.Ytbipjdgholdhcaa.T

namespace Go.Proofs.Ytbipjdgholdhcaa.N
open Go.RowKit Go.Maps
open Go.Proofs.Ytbipjdgholdhcaa.T
theorem spc_len (l : List (Nat × Nat)) : (spc l).length = l.length * 2 := by
  induction l with
  | nil => rfl
  | cons a l ih => show (spV a ++ spc l).length = _; rw [List.length_append, ih, List.length_cons]; show 2 + _ = _; omega
end Go.Proofs.Ytbipjdgholdhcaa.N

namespace Go.Proofs.Ytbipjdgholdhcaa.N
open Go.RowKit Go.Maps
open Go.Proofs.Ytbipjdgholdhcaa.T

open U (below_grown own_get own_slice)
theorem own_rdi {W : World} {B n c : Nat} {A : Option Addr} {l : List Nat} (h : W.ownsRow B 3 1 (.slice A n c) n (l.map U.nI)) : RdI W A l := fun j x hj => by
  obtain ⟨g, cc, e, _, lg, y, _⟩ := own_get h (j := j) (x := U.nI x) (by rw [List.getElem?_map, hj]; rfl)
  have e : A = some ⟨g, 0, none⟩ := by injection e
  exact ⟨g, 0, e, lg, by rw [Nat.zero_add]; exact y⟩
theorem RdI.take {W : World} {A : Option Addr} {l : List Nat} (h : RdI W A l) (k : Nat) : RdI W A (l.take k) := fun j x hj => by
  by_cases q : j < k
  · rw [List.getElem?_take_of_lt q] at hj
    exact h j x hj
  · rw [List.getElem?_eq_none (by rw [List.length_take]; omega)] at hj
    cases hj
set_option maxRecDepth 100000 in
set_option maxHeartbeats 8000000 in
/-- Does a list have a number? -/
theorem has_any (l : List Nat) (hl : l.length ≤ 1000000) (m : Nat) (A : Option Addr) (c : Nat) (w : World) (hp : RdI w A l) :
    Calls Try.prog 10 #[.slice A l.length c, .int .i64 (m : Int)] w fun e w' => e = .returned (.bool (l.contains m)) ∧ w' = w := by
  have HX := (show Hid (RdI w A l) from hp)
  have HA0 := (show Hid (∀ (j x : Nat), j < 0 → l[j]? = some x → x ≠ m) from fun j x h => absurd h (Nat.not_lt_zero _))
  clear hp
  go_enter Try.func10, Try.ntmps10
  go_wp2_with fail
  go_loopw [5] (fun t wr => ∃ k : Nat, k ≤ l.length ∧ t = .int .i64 (k : Int) ∧ wr = w ∧ Hid (∀ (j x : Nat), j < k → l[j]? = some x → x ≠ m)) (fun t _ => l.length - (intOf t).toNat)
  case atStart => exact ⟨0, Nat.zero_le _, by go_num, by first | rfl | trivial, HA0⟩
  case round =>
    obtain ⟨k, hk, rfl, rfl, HA⟩ := hrel
    clear HA0
    by_cases hlt : k < l.length
    · obtain ⟨x, hx⟩ : ∃ x, l[k]? = some x := ⟨_, List.getElem?_eq_getElem hlt⟩
      obtain ⟨g, o, rfl, lg, y⟩ := HX.out k x hx
      have z0 : (0 : Int) ≤ (k : Int) := by omega
      have z1 : (k : Int) < (l.length : Int) := by omega
      have HXk := (show Hid (l[k]? = some x) from hx)
      clear lg hx
      by_cases hm : x = m
      · subst hm
        have HV := (show Hid (l.contains x = true) from List.contains_iff_mem.2 (List.mem_of_getElem? HXk.out))
        have te : ((x : Int) == (x : Int)) = true := by rw [beq_iff_eq]
        clear HXk HA HX
        go_wp2_with fail
        go_ret
        exact ⟨by rw [HV.out]; rfl, by first | rfl | trivial⟩
      · have te : ((x : Int) == (m : Int)) = false := by
          rw [beq_eq_false_iff_ne]
          intro e
          exact hm (by omega)
        have HN := (show Hid (∀ (j x : Nat), j < k + 1 → l[j]? = some x → x ≠ m) from fun j x2 hj h2 => by
          by_cases e : j = k
          · subst e
            rw [HXk.out] at h2
            cases h2
            exact hm
          · exact HA.out j x2 (by omega) h2)
        have hne : ¬ (x : Int) = (m : Int) := by omega
        clear HXk HA
        go_wp2_with fail
        go_roundw
        case rel => exact ⟨k + 1, by omega, by go_num, by first | rfl | trivial, HN⟩
        case measure => simp [intOf]; omega
    · obtain rfl : k = l.length := by omega
      have HV := (show Hid (l.contains m = false) from by
        cases e : l.contains m with
        | false => rfl
        | true =>
          obtain ⟨j, hj⟩ := List.getElem?_of_mem (List.contains_iff_mem.1 e)
          exact absurd rfl (HA.out j m (List.getElem?_eq_some_iff.1 hj).1 hj))
      clear HA HX
      go_wp2_with fail
      go_ret
      exact ⟨by rw [HV.out]; rfl, by first | rfl | trivial⟩
end Go.Proofs.Ytbipjdgholdhcaa.N

namespace Go.Proofs.Ytbipjdgholdhcaa.N
open Go.RowKit Go.Maps
open Go.Proofs.Ytbipjdgholdhcaa.T

open U (own_get own_slice below_grown TT)
def VdD (gs : GL) (now : List Em) (l : List Nat) (p q : Nat) (e : Int) : Prop := ((ckG gs).2 ≠ 0 → l = [] ∧ (p, q) = (ckG gs).1 ∧ e = (ckG gs).2) ∧ ((ckG gs).2 = 0 → ∃ cy, CyR gs.length (hdM gs (nbE now)) cy ∧ ((cy ≠ [] ∧ l = cy ∧ p = 0 ∧ q = 0 ∧ e = 100) ∨ (cy = [] ∧ l = [] ∧ ((∃ s r, lpG gs (nbE now) gs.length = s :: r ∧ p = s.1 ∧ q = s.2 ∧ e = 101) ∨ (lpG gs (nbE now) gs.length = [] ∧ p = 0 ∧ q = 0 ∧ e = 0)))))
theorem vd_doc {gs : GL} {l : List Nat} {p q : Nat} {cd : Int} (h : VdR gs l p q cd) : ∃ now, ((ckG gs).2 = 0 → KnF gs now ∧ now.length = gs.length) ∧ VdD gs now l p q cd := by
  by_cases hz : (ckG gs).2 = 0
  · obtain ⟨now, h1, h2, h3⟩ := h.2 hz
    exact ⟨now, fun _ => ⟨h1, h2⟩, fun q => absurd hz q, fun _ => h3⟩
  · exact ⟨[], fun q => absurd q hz, h.1, fun q => absurd q hz⟩
theorem vd_len {gs : GL} {now : List Em} {l : List Nat} {p q : Nat} {cd : Int} (h : VdD gs now l p q cd) : l.length ≤ 200 := by
  by_cases hz : (ckG gs).2 = 0
  · have hR := ckG_ok.1 hz
    obtain ⟨cy, h1, h2⟩ := h.2 hz
    rcases h2 with ⟨_, rfl, _⟩ | ⟨_, rfl, _⟩
    · rcases h1 with ⟨rfl, _⟩ | ⟨r, m, hd, _, hp⟩
      · exact Nat.zero_le _
      · rw [hp.n]
        exact Nat.le_trans (Ds.few (hdM_lt hR) hd) hR.n2
    · exact Nat.zero_le _
  · rw [(h.1 hz).1]; exact Nat.zero_le _

theorem pgS_bd {gs : GL} {bd bd2 : Nat → Bool} (h : ∀ i, i < gs.length → bd i = bd2 i) : pgS gs bd = pgS gs bd2 := by
  unfold pgS
  refine List.map_congr_left fun i hi => ?_
  rw [h i (List.mem_range.1 hi)]
theorem rdE_bd0 {gs : GL} {kd : List Nd → Nat → List Nat} {bd bd2 : Nat → Bool} (h : ∀ i, i < gs.length → bd i = bd2 i) (now : List Em) : rdE gs kd bd now = rdE gs kd bd2 now := by
  apply List.ext_getElem?
  intro i
  by_cases hi : i < gs.length
  · have hg : gs[i]? = some gs[i] := List.getElem?_eq_getElem hi
    rw [rdE_get hg, rdE_get hg, h i hi]
  · rw [List.getElem?_eq_none (by rw [rdE_len]; omega), List.getElem?_eq_none (by rw [rdE_len]; omega)]
theorem pgE_bd {gs : GL} {kd : List Nd → Nat → List Nat} {bd bd2 : Nat → Bool} (h : ∀ i, i < gs.length → bd i = bd2 i) : ∀ m, pgE gs kd bd m = pgE gs kd bd2 m := by
  intro m
  induction m with
  | zero => exact pgS_bd h
  | succ m ih =>
    show rdE gs kd bd (pgE gs kd bd m) = rdE gs kd bd2 (pgE gs kd bd2 m)
    rw [ih, rdE_bd0 h]
theorem kf_same {gs : GL} {a b : List Em} (h1 : KnF gs a) (h2 : KnF gs b) : a = b := by
  obtain ⟨R, bd, m, hI, hbd, rfl, he⟩ := h1
  obtain ⟨R2, bd2, m2, hI2, hbd2, rfl, he2⟩ := h2
  have hs : ∀ i, i < gs.length → bd2 i = bd i := fun i hi => by
    rw [hbd2 i, hbd i]
    congr 1
    rw [Bool.eq_iff_iff, hI2.rl i i hi hi, hI.rl i i hi hi]
  rw [pgE_bd hs] at he2 ⊢
  rw [pgE_bd hs] at he2
  have e1 := pg_fix he m2
  have e2 := pg_fix he2 m
  rw [← e1, ← e2, Nat.add_comm]

theorem sps_get (l : List (Nat × Nat)) : ∀ (k : Nat) s, l[k]? = some s → (spc l)[k * 2]? = some (.int .i64 (s.1 : Int)) ∧ (spc l)[k * 2 + 1]? = some (.int .i64 (s.2 : Int)) := by
  induction l with
  | nil => intro k s h; cases h
  | cons a l ih =>
    intro k s h
    have e : spc (a :: l) = .int .i64 (a.1 : Int) :: .int .i64 (a.2 : Int) :: spc l := rfl
    rw [e]
    cases k with
    | zero => cases h; exact ⟨rfl, rfl⟩
    | succ k =>
      have h : l[k]? = some s := h
      obtain ⟨h1, h2⟩ := ih k s h
      rw [show (k + 1) * 2 = k * 2 + 1 + 1 from by omega]
      exact ⟨h1, h2⟩
theorem fs_at {W : World} {B n k : Nat} {A : Option Addr} {c : Nat} {s : Nat × Nat} {l : List (Nat × Nat)} (h : W.ownsRow B 27 2 (.slice A n c) n (spc l)) (hk : l[k]? = some s) : ∃ g, A = some ⟨g, 0, none⟩ ∧ g < W.heap.size ∧ W.cell? ⟨g, k * 2, none⟩ = some (.int .i64 (s.1 : Int)) ∧ W.cell? ⟨g, k * 2 + 1, none⟩ = some (.int .i64 (s.2 : Int)) := by
  obtain ⟨h1, h2⟩ := sps_get l k s hk
  rcases h.2 with ⟨_, hn⟩ | ⟨g, cap, cur, e, _⟩
  · have hlen := h.1
    rw [spc_len, hn] at hlen
    have := (List.getElem?_eq_some_iff.1 hk).1
    omega
  · injection e with e1 _ e3
    subst e1
    have hkl := (List.getElem?_eq_some_iff.1 hk).1
    have hlen := h.1
    rw [spc_len] at hlen
    have c1 := (h.cellAt (k * 2) (by omega)).trans h1
    have c2 := (h.cellAt (k * 2 + 1) (by omega)).trans h2
    exact ⟨g, rfl, World.block_lt_of_cell? W _ c1, c1, c2⟩

theorem sp_eq (a b : Nat) (W : World) : (binOp .eql 27 (.agg #[.int .i64 (a : Int), .int .i64 (b : Int)]) (.agg #[.int .i64 (a : Int), .int .i64 (b : Int)])).run Try.prog W = .ok (.bool true) W := by
  have hp : Try.prog.stoodInHeld 27 = false := by kernel_rfl
  simp [go_sem, Try.underlying27, Try.underlying3, Try.isAgg3, hp]
end Go.Proofs.Ytbipjdgholdhcaa.N

namespace Go.Proofs.Ytbipjdgholdhcaa.N
open Go.RowKit Go.Maps
open Go.Proofs.Ytbipjdgholdhcaa.T

open U (own_get own_slice below_grown)
def lvA : Nd := ⟨3, 0, ⟨#[]⟩, 0, 0, 0, 0⟩
def lvB : Nd := ⟨6, 0, ⟨#[115]⟩, 0, 0, 0, 0⟩
def lvG (n : Nd) : GL := [(⟨#[115]⟩, [n])]
theorem lv_a : ckG (lvG lvA) = ((0, 0), 0) := by kernel_rfl
theorem lv_b : ckG (lvG lvB) = ((0, 0), 0) := by kernel_rfl
theorem rc_some {n : Nat} {c : Mx} {x y : Nat} (h : Rc n c x y) : ∃ k, c x k = true :=
  Rc.least (d := fun i _ => ∃ k, c i k = true) (fun _i j hc => ⟨j, hc⟩) (fun _i _k _j _ h1 _ => h1) h
theorem lv_ha (nb : List Bool) (i q : Nat) : hdM (lvG lvA) nb i q = false := by
  cases i with
  | zero => rfl
  | succ i => rfl
theorem lv_la (nb : List Bool) : lpG (lvG lvA) nb 1 = [] := rfl
theorem lv_hb (nb : List Bool) : hdM (lvG lvB) nb 0 0 = true := by
  rfl
theorem lv_va {l : List Nat} {p q : Nat} {cd : Int} (h : VdR (lvG lvA) l p q cd) : cd = 0 := by
  have hz : (ckG (lvG lvA)).2 = 0 := by rw [lv_a]
  obtain ⟨now, _, _, cy, hcy, h3⟩ := h.2 hz
  have hno : cy = [] := (hcy.nil (hdM_lt (ckG_ok.1 hz))).2 fun r hr => by
    obtain ⟨k, hk⟩ := rc_some hr
    rw [lv_ha] at hk
    cases hk
  rcases h3 with ⟨q1, _⟩ | ⟨_, _, ⟨s, r, q1, _⟩ | ⟨_, _, _, q1⟩⟩
  · exact absurd hno q1
  · have e : lpG (lvG lvA) (nbE now) (lvG lvA).length = [] := lv_la _
    rw [e] at q1
    cases q1
  · exact q1
theorem lv_vb {l : List Nat} {p q : Nat} {cd : Int} (h : VdR (lvG lvB) l p q cd) : cd = 100 ∧ l.length = 1 := by
  have hz : (ckG (lvG lvB)).2 = 0 := by rw [lv_b]
  obtain ⟨now, _, _, cy, hcy, h3⟩ := h.2 hz
  have hlt := hdM_lt (nb := nbE now) (ckG_ok.1 hz)
  have hc : hdM (lvG lvB) (nbE now) 0 0 = true := lv_hb _
  have hne : cy ≠ [] := fun e => (hcy.nil hlt).1 e 0 (Rc.of hc)
  rcases h3 with ⟨_, rfl, _, _, q1⟩ | ⟨q1, _⟩
  · refine ⟨q1, ?_⟩
    rcases hcy with ⟨q2, _⟩ | ⟨r, m, hd, _, hp⟩
    · exact absurd q2 hne
    · have hr : r < 1 := (Ds.lt hlt hd).1
      obtain rfl : r = 0 := by omega
      rw [hp.n]
      exact hd.one (Ds.first.2 hc)
  · exact absurd q1 hne
/-- Nodes that were just laid are read. -/
theorem rd_lit (w : World) (L : List Nd) (cs : Array Value) (hn : L.length ≤ 100) (hc : cs.toList = ndc L) : RdN (w.alloc (.cells cs 51)) (some ⟨w.heap.size, 0, none⟩) L := fun _ => by
  have hs : cs.size = L.length * 7 := by rw [← Array.length_toList, hc, ndc_len]
  have ho : (w.alloc (.cells cs 51)).ownsRow w.heap.size 51 7 (.slice (some ⟨w.heap.size, 0, none⟩) L.length L.length) L.length (ndc L ++ []) := by
    rw [List.append_nil, ← hc]
    exact World.ownsRow_lit w cs L.length (Nat.le_refl _) (by unfold maxLen; omega) hs
  exact ⟨w.heap.size, 0, rfl, by rw [World.size_alloc]; omega, own_ndl ho⟩
theorem lv_gi (w : World) (n : Nd) (cs : Array Value) (hc : cs.toList = ndc [n]) (ht : n.tx.size ≤ 140737488355328) : GI ((w.alloc (.cells cs 51)).alloc (.cells #[.string ⟨#[115]⟩, .slice (some ⟨w.heap.size, 0, none⟩) 1 1] 55)) (some ⟨w.heap.size + 1, 0, none⟩) (lvG n) ∧ Below w.heap.size w ((w.alloc (.cells cs 51)).alloc (.cells #[.string ⟨#[115]⟩, .slice (some ⟨w.heap.size, 0, none⟩) 1 1] 55)) := by
  have r1 := rd_lit w [n] cs (by show 1 ≤ 100; omega) hc
  have s1 := World.size_alloc w (.cells cs 51)
  have b1 := below_box w (.cells cs 51)
  obtain ⟨w1, h1⟩ : ∃ w1, w1 = w.alloc (.cells cs 51) := ⟨_, rfl⟩
  rw [← h1] at s1 r1 b1 ⊢
  have hnew := heap_alloc_new w1 (.cells #[.string ⟨#[115]⟩, .slice (some ⟨w.heap.size, 0, none⟩) 1 1] 55)
  have b2 := below_box w1 (.cells #[.string ⟨#[115]⟩, .slice (some ⟨w.heap.size, 0, none⟩) 1 1] 55)
  have s2 := World.size_alloc w1 (.cells #[.string ⟨#[115]⟩, .slice (some ⟨w.heap.size, 0, none⟩) 1 1] 55)
  rw [s1] at hnew
  have key := fun j => cell_of_row (w1.alloc (.cells #[.string ⟨#[115]⟩, .slice (some ⟨w.heap.size, 0, none⟩) 1 1] 55)) (w.heap.size + 1) j _ 55 (0, 0) hnew
  refine ⟨⟨fun k g hg => ?_, by show 1 ≤ _; omega, fun g hg => ?_⟩, b1.trans (b2.mono b1.size)⟩
  · match k, hg with
    | 0, hg =>
      cases hg
      exact ⟨_, 0, _, 1, rfl, by omega, key 0, key 1, r1.below b2 (Nat.le_refl _)⟩
    | k + 1, hg => simp [lvG] at hg
  · simp only [lvG, List.mem_cons, List.not_mem_nil, or_false] at hg
    subst hg
    refine ⟨by show 1 ≤ _; omega, by show 1 ≤ _; omega, fun m hm => ?_⟩
    simp only [List.mem_cons, List.not_mem_nil, or_false] at hm
    subst hm
    exact ht
set_option maxRecDepth 100000 in
set_option maxHeartbeats 16000000 in
theorem lives_any (w : World) : Calls Try.prog 7 #[] w fun e w' => e = .returned (.bool true) ∧ Below w.heap.size w w' := by
  obtain ⟨w1, hw1⟩ : ∃ w1, w1 = ((w.alloc (.cells #[.int .i64 3, .int .i64 0, .string ⟨#[]⟩, .int .u64 0, .int .u64 0, .int .u64 0, .int .u64 0] 51)).alloc (.cells #[.string ⟨#[115]⟩, .slice (some ⟨w.heap.size, 0, none⟩) 1 1] 55)) := ⟨_, rfl⟩
  have HE1 := (show Hid (((w.alloc (.cells #[.int .i64 3, .int .i64 0, .string ⟨#[]⟩, .int .u64 0, .int .u64 0, .int .u64 0, .int .u64 0] 51)).alloc (.cells #[.string ⟨#[115]⟩, .slice (some ⟨w.heap.size, 0, none⟩) 1 1] 55)) = w1) from hw1.symm)
  have h1 := lv_gi w lvA #[.int .i64 3, .int .i64 0, .string ⟨#[]⟩, .int .u64 0, .int .u64 0, .int .u64 0, .int .u64 0] rfl (by show 0 ≤ _; omega)
  rw [← hw1] at h1
  have HB1 := (show Hid (Below w.heap.size w w1) from h1.2)
  have HC1 := (show Hid (∀ _ : Unit, Calls Try.prog 5 #[.agg #[.slice (some ⟨w.heap.size + 1, 0, none⟩) 1 1]] w1 fun e w' => (∃ (A : Option Addr) (n c p q : Nat), e = .returned (.tuple #[.agg #[.slice A n c, .int .i64 (p : Int), .int .i64 (q : Int)], .int .i64 0])) ∧ Below w1.heap.size w1 w') from fun _ => by
    refine (fcheck_any (lvG lvA) (some ⟨w.heap.size + 1, 0, none⟩) 1 w1 h1.1).mono ?_
    rintro e w' ⟨⟨vc, l, p, q, cd, rfl, hv, ho⟩, b⟩
    obtain ⟨A, c, rfl⟩ := own_slice ho
    rw [lv_va hv]
    exact ⟨⟨A, _, c, p, q, rfl⟩, b⟩)
  have HC2 := (show Hid (∀ W : World, Calls Try.prog 5 #[.agg #[.slice (some ⟨W.heap.size + 1, 0, none⟩) 1 1]] ((W.alloc (.cells #[.int .i64 6, .int .i64 0, .string ⟨#[115]⟩, .int .u64 0, .int .u64 0, .int .u64 0, .int .u64 0] 51)).alloc (.cells #[.string ⟨#[115]⟩, .slice (some ⟨W.heap.size, 0, none⟩) 1 1] 55)) fun e w' => (∃ (A : Option Addr) (c p q : Nat), e = .returned (.tuple #[.agg #[.slice A 1 c, .int .i64 (p : Int), .int .i64 (q : Int)], .int .i64 100])) ∧ Below W.heap.size W w') from fun W => by
    have h2 := lv_gi W lvB #[.int .i64 6, .int .i64 0, .string ⟨#[115]⟩, .int .u64 0, .int .u64 0, .int .u64 0, .int .u64 0] rfl (by show 1 ≤ _; omega)
    refine (fcheck_any (lvG lvB) (some ⟨W.heap.size + 1, 0, none⟩) 1 _ h2.1).mono ?_
    rintro e w' ⟨⟨vc, l, p, q, cd, rfl, hv, ho⟩, b⟩
    obtain ⟨A, c, rfl⟩ := own_slice ho
    obtain ⟨e1, e2⟩ := lv_vb hv
    rw [e1, e2]
    exact ⟨⟨A, c, p, q, rfl⟩, h2.2.trans (b.mono h2.2.size)⟩)
  clear h1 hw1
  go_enter Try.func7, Try.ntmps7
  go_wp2_with (rw [HE1.out])
  refine (HC1.out ()).mono ?_
  rintro e w2 ⟨⟨A, n, c, p, q, rfl⟩, b2⟩
  have HB2 := (show Hid (Below w.heap.size w w2) from HB1.out.trans (b2.mono HB1.out.size))
  clear HC1 HE1 b2 HB1
  obtain ⟨w3, hw3⟩ : ∃ w3, w3 = w2.alloc (.cells #[.slice A n c, .int .i64 (p : Int), .int .i64 (q : Int)] 29) := ⟨_, rfl⟩
  have HE3 := (show Hid (w2.alloc (.cells #[.slice A n c, .int .i64 (p : Int), .int .i64 (q : Int)] 29) = w3) from hw3.symm)
  have HB3 := (show Hid (Below w.heap.size w w3) from by rw [hw3]; exact HB2.out.trans ((below_box _ _).mono HB2.out.size))
  clear hw3 HB2
  go_wp2_with (rw [HE3.out])
  refine (HC2.out w3).mono ?_
  rintro e w4 ⟨⟨A4, c4, p4, q4, rfl⟩, b4⟩
  have HB4 := (show Hid (Below w.heap.size w w4) from HB3.out.trans (b4.mono HB3.out.size))
  clear HC2 HE3 b4 HB3
  obtain ⟨w5, hw5⟩ : ∃ w5, w5 = w4.alloc (.cells #[.slice A4 1 c4, .int .i64 (p4 : Int), .int .i64 (q4 : Int)] 29) := ⟨_, rfl⟩
  have HE5 := (show Hid (w4.alloc (.cells #[.slice A4 1 c4, .int .i64 (p4 : Int), .int .i64 (q4 : Int)] 29) = w5) from hw5.symm)
  have HB5 := (show Hid (Below w.heap.size w w5) from by rw [hw5]; exact HB4.out.trans ((below_box _ _).mono HB4.out.size))
  have hd5 : DX w5 w4.heap.size (.slice A4 1 c4) (p4 : Int) (q4 : Int) := by rw [hw5]; exact DX.new w4 _ _ _
  have c0 := hd5.c0
  clear hw5 HB4 hd5
  go_wp2_with (rw [HE5.out])
  go_ret
  exact ⟨rfl, HB5.out⟩
end Go.Proofs.Ytbipjdgholdhcaa.N

namespace Go.Proofs.Ytbipjdgholdhcaa.N
open Go.RowKit Go.Maps
open Go.Proofs.Ytbipjdgholdhcaa.T

open U (own_get own_slice below_grown)
theorem own_sg {W : World} {B e s n : Nat} {v : Value} {xs : List Value} (h : W.ownsRow B e s v n xs) : ∃ A cap, v = .slice A n cap := by
  rcases h.2 with ⟨rfl, rfl⟩ | ⟨g, cap, cur, rfl, _⟩
  · exact ⟨_, _, rfl⟩
  · exact ⟨_, _, rfl⟩
/-- Heads of a rule of a right grammar, with what is known of it at hand. -/
theorem fheads_rt (gs : GL) {now : List Em} (hz : (ckG gs).2 = 0) (hkn : KnF gs now) (A : Option Addr) (c r : Nat) (hr : r < gs.length) (w : World) (hp : GI w A gs) :
    Calls Try.prog 9 #[.agg #[.slice A gs.length c], .int .i64 (r : Int)] w fun e w' => (∃ (A1 : Option Addr) (c1 : Nat), e = .returned (.tuple #[.slice A1 (hdl gs.length (hdM gs (nbE now)) r).length c1, .int .i64 0]) ∧ RdI w' A1 (hdl gs.length (hdM gs (nbE now)) r)) ∧ Below w.heap.size w w' := by
  refine (fheads_any gs A c (r : Int) w hp).mono ?_
  rintro e w' ⟨hh, b⟩
  obtain ⟨now2, v, k2, _, rfl, ho⟩ := (hh.2 hz).2 r rfl hr
  obtain rfl := kf_same hkn k2
  obtain ⟨A1, c1, rfl⟩ := own_slice ho
  exact ⟨⟨A1, c1, rfl, own_rdi ho⟩, b⟩
theorem has_at {l : List Nat} {k : Nat} (hk : l.length = k) (hl : k ≤ 1000000) {m : Nat} {b : Bool} (hb : l.contains m = b) {A : Option Addr} {c : Nat} {w : World} (hp : RdI w A l) : Calls Try.prog 10 #[.slice A k c, .int .i64 (m : Int)] w fun e w' => e = .returned (.bool b) ∧ w' = w := by
  subst hk hb
  exact has_any l hl m A c w hp
end Go.Proofs.Ytbipjdgholdhcaa.N

namespace Go.Proofs.Ytbipjdgholdhcaa.N
open Go.RowKit Go.Maps
open Go.Proofs.Ytbipjdgholdhcaa.T
/-- Each rule on a cycle is a head of the one ahead, the first one of the last one. -/
theorem cy_next {n : Nat} {c : Mx} {l : List Nat} (h : CyR n c l) {i x y : Nat} (hx : l[i]? = some x) (hy : l[(i + 1) % l.length]? = some y) : c x y = true := by
  have hi := (List.getElem?_eq_some_iff.1 hx).1
  rcases h with ⟨rfl, _⟩ | ⟨r, m, hd, _, hp⟩
  · cases hx
  · by_cases e : i + 1 < l.length
    · rw [Nat.mod_eq_of_lt e] at hy
      exact (hp.s i x y hx hy).1
    · have e2 : i + 1 = l.length := by omega
      rw [e2, Nat.mod_self, hp.h] at hy
      cases hy
      have hn := hp.n
      refine hp.last hd (x := x) ?_
      rw [show m - 1 = i from by omega]
      exact hx
/-- None stands on it twice. -/
theorem cy_nd {n : Nat} {c : Mx} {l : List Nat} (h : CyR n c l) {i x : Nat} (hx : l[i]? = some x) : (l.take i).contains x = false := by
  cases e : (l.take i).contains x with
  | false => rfl
  | true =>
    obtain ⟨j, hj⟩ := List.getElem?_of_mem (List.contains_iff_mem.1 e)
    have hlt := (List.getElem?_eq_some_iff.1 hj).1
    rw [List.length_take] at hlt
    rw [List.getElem?_take_of_lt (by omega)] at hj
    rcases h with ⟨rfl, _⟩ | ⟨r, m, hd, _, hp⟩
    · cases hx
    · have := hp.nd hd hj hx
      omega
/-- The first one is the least. -/
theorem cy_least {n : Nat} {c : Mx} (hc : ∀ i j, c i j = true → i < n ∧ j < n) {l : List Nat} (h : CyR n c l) {i x y : Nat} (hx : l[i]? = some x) (hy : l[0]? = some y) : y ≤ x := by
  rcases h with ⟨rfl, _⟩ | ⟨r, m, hd, hq, hp⟩
  · cases hx
  · rw [hp.h] at hy
    cases hy
    apply Nat.le_of_not_lt
    intro q
    exact hq x q (hp.back hc hd i x hx)
theorem cy_lt {n : Nat} {c : Mx} (hc : ∀ i j, c i j = true → i < n ∧ j < n) {l : List Nat} (h : CyR n c l) {i x : Nat} (hx : l[i]? = some x) : x < n := by
  have hi := (List.getElem?_eq_some_iff.1 hx).1
  obtain ⟨y, hy⟩ : ∃ y, l[(i + 1) % l.length]? = some y := ⟨_, List.getElem?_eq_getElem (Nat.mod_lt _ (by omega))⟩
  exact (hc x y (cy_next h hx hy)).1
end Go.Proofs.Ytbipjdgholdhcaa.N

namespace Go.Proofs.Ytbipjdgholdhcaa.N
open Go.RowKit Go.Maps
open Go.Proofs.Ytbipjdgholdhcaa.T
/-- The numbers that rules' Check tells: 0, or one below 100. -/
theorem al_le (n : Nd) : alE n ≤ 42 := by
  unfold alE
  split
  · omega
  · split <;> omega
theorem er_le (L : List Nd) (k : Nat) : er L k ≤ 42 := by
  unfold er
  split
  · omega
  · rename_i n _
    have := al_le n
    split
    · exact this
    · split
      · omega
      · split <;> omega
theorem ckGo_le (L : List Nd) : ∀ (m k : Nat), (ckGo L m k).2 ≤ 42 := by
  intro m
  induction m with
  | zero =>
    intro k
    rw [ckGo]
    split
    · show (0 : Int) ≤ 42; omega
    · exact Int.le_refl _
  | succ m ih =>
    intro k
    rw [ckGo]
    split
    · exact er_le L k
    · exact ih (k + 1)
theorem ck_le (L : List Nd) : (ck L).2 ≤ 42 := by
  unfold ck
  split
  · show (2 : Int) ≤ 42; omega
  · exact ckGo_le L _ _
theorem c1G_le (gs : GL) : ∀ (l : GL) (i m : Nat), (c1G gs i m l).2 ≤ 80 := by
  intro l
  induction l with
  | nil => intro i m; show (0 : Int) ≤ 80; omega
  | cons a r ih =>
    intro i m
    rw [c1G]
    split
    · show (6 : Int) ≤ 80; omega
    · split
      · exact Int.le_refl _
      · split
        · have := ck_le a.2
          show (ck a.2).2 ≤ 80
          omega
        · split
          · show (2 : Int) ≤ 80; omega
          · exact ih _ _
theorem unG_le (gs : GL) : ∀ (l : GL) (i : Nat), (unG gs i l).2 ≤ 81 := by
  intro l
  induction l with
  | nil => intro i; show (0 : Int) ≤ 81; omega
  | cons a r ih =>
    intro i
    rw [unG]
    split
    · exact Int.le_refl _
    · exact ih _
theorem ck_codes (gs : GL) : (ckG gs).2 < 100 := by
  have h1 := c1G_le gs gs 0 0
  have h2 := unG_le gs gs 0
  unfold ckG
  split
  · show (3 : Int) < 100; omega
  · split
    · show (2 : Int) < 100; omega
    · split <;> omega

open U (own_get own_slice below_grown)
/-- While a verdict is looked at: the grammar's box, the verdict's, its cycle. -/
structure CyS (w wr : World) (a : Value) (k1 B : Nat) (v : Value) (l : List Nat) (p q : Int) : Prop where
  b : Below w.heap.size w wr
  x : GX wr w.heap.size a
  d : DX wr k1 v p q
  o : wr.ownsRow B 3 1 v l.length (l.map U.nI)
theorem CyS.later {w wr W' : World} {a v : Value} {k1 B : Nat} {l : List Nat} {p q : Int} (h : CyS w wr a k1 B v l p q) (hb : Below wr.heap.size wr W') : CyS w W' a k1 B v l p q := ⟨h.b.trans (hb.mono h.b.size), h.x.below hb, h.d.below hb, own_below h.o hb⟩
theorem tmod_nat (a b : Nat) : Int.tmod ((a : Int) + 1) (b : Int) = (((a + 1) % b : Nat) : Int) := rfl
theorem int_at {W : World} {B n c g : Nat} {l : List Nat} (h : W.ownsRow B 3 1 (.slice (some ⟨g, 0, none⟩) n c) n (l.map U.nI)) {i x : Nat} (hx : l[i]? = some x) : W.cell? ⟨g, i, none⟩ = some (.int .i64 (x : Int)) := by
  obtain ⟨g2, cc, e, _, _, y, _⟩ := own_get h (j := i) (x := U.nI x) (by rw [List.getElem?_map, hx]; rfl)
  have e : g = g2 := by injection e with e1; injection e1 with e1; injection e1
  subst e
  exact y
set_option maxRecDepth 100000 in
set_option maxHeartbeats 32000000 in
/-- A cycle is one; a loop is the first one. -/
theorem cycle_law (gs : GL) (A : Option Addr) (c : Nat) (w : World) (hg : GrIn w A c gs) : Calls Try.prog 4 #[.agg #[.slice A gs.length c]] w fun e w' => e = .returned (.bool true) ∧ Below w.heap.size w w' := by
  obtain ⟨w0, hw0⟩ : ∃ w0, w0 = w.alloc (.cells #[.slice A gs.length c] 24) := ⟨_, rfl⟩
  have HB0 := (show Hid (Below w.heap.size w w0) from by rw [hw0]; exact below_box w _)
  have HX0 := (show Hid (GX w0 w.heap.size (.slice A gs.length c)) from by rw [hw0]; exact GX.mk (heap_alloc_new w _))
  have HE0 := (show Hid (w.alloc (.cells #[.slice A gs.length c] 24) = w0) from hw0.symm)
  have HP := (show Hid (GI w A gs) from hg.gi)
  have HWk := (show Hid (∀ W, Calls Try.prog 7 #[] W fun e w' => e = .returned (.bool true) ∧ Below W.heap.size W w') from lives_any)
  have HCk := (show Hid (∀ _ : Unit, Calls Try.prog 5 #[.agg #[.slice A gs.length c]] w0 fun e w' => (∃ (A1 : Option Addr) (c1 : Nat) (l : List Nat) (p q : Nat) (cd : Int), e = .returned (.tuple #[.agg #[.slice A1 l.length c1, .int .i64 (p : Int), .int .i64 (q : Int)], .int .i64 cd]) ∧ VdR gs l p q cd ∧ w'.ownsRow w0.heap.size 3 1 (.slice A1 l.length c1) l.length (l.map U.nI)) ∧ Below w0.heap.size w0 w') from fun _ => by
    refine (fcheck_any gs A c w0 (HP.out.later HB0.out)).mono ?_
    rintro e w' ⟨⟨v, l, p, q, cd, rfl, hr, ho⟩, b⟩
    obtain ⟨A1, c1, rfl⟩ := own_slice ho
    exact ⟨⟨A1, c1, l, p, q, cd, rfl, hr, ho⟩, b⟩)
  have x0 := HX0.out.cl
  clear hg hw0
  go_enter Try.func4, Try.ntmps4
  go_wp2_with (rw [HE0.out])
  refine (HCk.out ()).mono ?_
  rintro e w1 ⟨⟨A1, c1, l, p, q, cd, rfl, hv1, ho1⟩, b1⟩
  obtain ⟨w2, hw2⟩ : ∃ w2, w2 = w1.alloc (.cells #[.slice A1 l.length c1, .int .i64 (p : Int), .int .i64 (q : Int)] 29) := ⟨_, rfl⟩
  have HE2 := (show Hid (w1.alloc (.cells #[.slice A1 l.length c1, .int .i64 (p : Int), .int .i64 (q : Int)] 29) = w2) from hw2.symm)
  have hb2 : Below w1.heap.size w1 w2 := by rw [hw2]; exact below_box _ _
  have HS := (show Hid (CyS w w2 (.slice A gs.length c) w1.heap.size w0.heap.size (.slice A1 l.length c1) l (p : Int) (q : Int)) from by
    have h1 := b1.trans (hb2.mono b1.size)
    exact ⟨HB0.out.trans (h1.mono HB0.out.size), HX0.out.below h1, by rw [hw2]; exact DX.new w1 _ _ _, own_below ho1 hb2⟩)
  have HV1 := (show Hid (VdR gs l p q cd) from hv1)
  have x2 := HS.out.x.cl
  have d2 := HS.out.d.c0
  generalize w0.heap.size = B0 at *
  clear hv1 ho1 b1 hb2 hw2 x0 HE0 HX0 HB0 HCk
  by_cases h100 : cd = 100
  · subst h100
    obtain ⟨now, hkn, hz, hcy, hne⟩ : ∃ now, KnF gs now ∧ (ckG gs).2 = 0 ∧ CyR gs.length (hdM gs (nbE now)) l ∧ l ≠ [] := by
      have hz : (ckG gs).2 = 0 := by
        by_cases e : (ckG gs).2 = 0
        · exact e
        · exfalso
          have h1 := (HV1.out.1 e).2.2
          have h2 := ck_codes gs
          omega
      obtain ⟨now, k1, _, cy, h1, h2⟩ := HV1.out.2 hz
      rcases h2 with ⟨a1, rfl, _⟩ | ⟨_, _, ⟨_, _, _, _, _, q⟩ | ⟨_, _, _, q⟩⟩
      · exact ⟨now, k1, hz, h1, a1⟩
      · omega
      · omega
    have hR := ckG_ok.1 hz
    have hc := hdM_lt (nb := nbE now) hR
    have hlen : 0 < l.length ∧ l.length ≤ 200 := by
      refine ⟨List.length_pos_iff.2 hne, ?_⟩
      obtain ⟨_, _, h⟩ := vd_doc HV1.out
      exact vd_len h
    obtain ⟨g1, hg1⟩ : ∃ g1, A1 = some ⟨g1, 0, none⟩ := by
      obtain ⟨g, cap, e, _⟩ := HS.out.o.form hlen.1
      exact ⟨g, by injection e⟩
    subst hg1
    have hcap : l.length ≤ c1 := own_cap HS.out.o
    have HC := (show Hid (CyR gs.length (hdM gs (nbE now)) l ∧ (∀ i j, hdM gs (nbE now) i j = true → i < gs.length ∧ j < gs.length) ∧ KnF gs now ∧ (ckG gs).2 = 0 ∧ gs.length ≤ 200) from ⟨hcy, hc, hkn, hz, hR.n2⟩)
    clear hz hR hc hkn hcy hne HV1
    go_wp2_with (rw [HE2.out])
    clear HE2 x2 d2
    generalize w1.heap.size = k1 at *
    go_loopw [5] (fun t wr => ∃ i : Nat, i ≤ l.length ∧ t = .int .i64 (i : Int) ∧ Hid (CyS w wr (.slice A gs.length c) k1 B0 (.slice (some ⟨g1, 0, none⟩) l.length c1) l (p : Int) (q : Int))) (fun t _ => l.length - (intOf t).toNat)
    case atStart => exact ⟨0, Nat.zero_le _, by go_num, HS⟩
    case round =>
      obtain ⟨i, hi, rfl, HW⟩ := hrel
      clear HS
      have d0 := HW.out.d.c0
      by_cases hlt : i < l.length
      · obtain ⟨x, hx⟩ : ∃ x, l[i]? = some x := ⟨_, List.getElem?_eq_getElem hlt⟩
        obtain ⟨m1, hm1⟩ : ∃ m1, m1 = (i + 1) % l.length := ⟨_, rfl⟩
        have hm2 : m1 < l.length := by rw [hm1]; exact Nat.mod_lt _ (by omega)
        obtain ⟨y, hy⟩ : ∃ y, l[m1]? = some y := ⟨_, List.getElem?_eq_getElem hm2⟩
        obtain ⟨z, hzz⟩ : ∃ z, l[0]? = some z := ⟨_, List.getElem?_eq_getElem (by omega)⟩
        have hn := cy_next HC.out.1 hx (y := y) (by rw [← hm1]; exact hy)
        have hle := cy_least HC.out.2.1 HC.out.1 hx hzz
        have hnd := cy_nd HC.out.1 hx
        have hxn := cy_lt HC.out.2.1 HC.out.1 hx
        have hrem : Int.tmod ((i : Int) + 1) (l.length : Int) = (m1 : Int) := by rw [tmod_nat, hm1]
        have HHe := (show Hid (∀ W, Below wr.heap.size wr W → Calls Try.prog 9 #[.agg #[.slice A gs.length c], .int .i64 (x : Int)] W fun e w' => (∃ (A6 : Option Addr) (c6 : Nat), e = .returned (.tuple #[.slice A6 (hdl gs.length (hdM gs (nbE now)) x).length c6, .int .i64 0]) ∧ RdI w' A6 (hdl gs.length (hdM gs (nbE now)) x)) ∧ Below wr.heap.size wr w') from fun W hW =>
          (fheads_rt gs HC.out.2.2.2.1 HC.out.2.2.1 A c x hxn W (HP.out.later (HW.out.b.trans (hW.mono HW.out.b.size)))).mono fun e w' ⟨h1, h2⟩ => ⟨h1, hW.trans (h2.mono hW.size)⟩)
        have HKe := (show Hid (∀ W, Below wr.heap.size wr W → W.cell? ⟨w.heap.size, 0, none⟩ = some (.slice A gs.length c) ∧ W.cell? ⟨k1, 0, none⟩ = some (.slice (some ⟨g1, 0, none⟩) l.length c1) ∧ W.cell? ⟨g1, i, none⟩ = some (.int .i64 (x : Int)) ∧ W.cell? ⟨g1, m1, none⟩ = some (.int .i64 (y : Int)) ∧ W.cell? ⟨g1, 0, none⟩ = some (.int .i64 (z : Int))) from fun W hW => by
          have h := HW.out.later hW
          exact ⟨h.x.cl, h.d.c0, int_at h.o hx, int_at h.o hy, int_at h.o hzz⟩)
        have HHd := (show Hid ((hdl gs.length (hdM gs (nbE now)) x).contains y = true ∧ (hdl gs.length (hdM gs (nbE now)) x).length ≤ 1000000 ∧ (l.take i).contains x = false ∧ (l.take i).length = i) from ⟨List.contains_iff_mem.2 ((hdl_mem HC.out.2.1).2 hn), Nat.le_trans (hdl_len _ _ _) (by have h2 := HC.out.2.2.2.2; omega), hnd, by rw [List.length_take]; omega⟩)
        have q0 := (HKe.out wr (Below.refl _ _)).1
        have q1 := (HKe.out wr (Below.refl _ _)).2.2.1
        have q2 := (HKe.out wr (Below.refl _ _)).2.2.2.1
        have q3 := (HKe.out wr (Below.refl _ _)).2.2.2.2
        have z0 : (0 : Int) ≤ (i : Int) := by omega
        have z1 : (i : Int) < (l.length : Int) := by omega
        clear hx hy hzz hn hnd hxn hm1
        generalize hdl gs.length (hdM gs (nbE now)) x = hs at *
        go_wp2_with fail
        go_region_held3 (fun W => W.cell? ⟨w.heap.size, 0, none⟩ = some (.slice A gs.length c) ∧ W.cell? ⟨k1, 0, none⟩ = some (.slice (some ⟨g1, 0, none⟩) l.length c1) ∧ W.cell? ⟨g1, i, none⟩ = some (.int .i64 (x : Int)) ∧ W.cell? ⟨g1, m1, none⟩ = some (.int .i64 (y : Int)) ∧ W.cell? ⟨g1, 0, none⟩ = some (.int .i64 (z : Int))) (first | go_keep | exact HKe.out _ b4 | exact HKe.out _ (Below.refl _ _) | exact HKe.out _ ((Below.refl _ _).drew)) ((go_at_call 9; with_reducible refine (HHe.out _ ((Below.refl _ _).drew)).mono ?_; rintro e w4 ⟨⟨A6, c6, rfl, r6⟩, b4⟩))
        rename_i hHeld
        have HW4 := (show Hid (CyS w w4 (.slice A gs.length c) k1 B0 (.slice (some ⟨g1, 0, none⟩) l.length c1) l (p : Int) (q : Int) ∧ RdI w4 A6 hs) from ⟨HW.out.later b4, r6⟩)
        have HK4 := (show Hid (∀ W, Below w4.heap.size w4 W → W.cell? ⟨k1, 0, none⟩ = some (.slice (some ⟨g1, 0, none⟩) l.length c1) ∧ W.cell? ⟨g1, i, none⟩ = some (.int .i64 (x : Int)) ∧ W.cell? ⟨g1, m1, none⟩ = some (.int .i64 (y : Int)) ∧ W.cell? ⟨g1, 0, none⟩ = some (.int .i64 (z : Int))) from fun W hW => (HKe.out W (b4.trans (hW.mono b4.size))).2)
        have HH1 := (show Hid (∀ W, Below w4.heap.size w4 W → Calls Try.prog 10 #[.slice A6 hs.length c6, .int .i64 (y : Int)] W fun e w' => e = .returned (.bool true) ∧ w' = W) from fun W hW => has_at rfl HHd.out.2.1 HHd.out.1 (HW4.out.2.later hW))
        have HH2 := (show Hid (∀ W, Below w4.heap.size w4 W → Calls Try.prog 10 #[.slice (some ⟨g1, 0, none⟩) i c1, .int .i64 (x : Int)] W fun e w' => e = .returned (.bool false) ∧ w' = W) from fun W hW => has_at HHd.out.2.2.2 (by omega) HHd.out.2.2.1 (((own_rdi HW4.out.1.o).later hW).take i))
        have y0 := (HK4.out w4 (Below.refl _ _)).1
        have y1 := (HK4.out w4 (Below.refl _ _)).2.1
        have y2 := (HK4.out w4 (Below.refl _ _)).2.2.1
        have y3 := (HK4.out w4 (Below.refl _ _)).2.2.2
        have hwr : wrap64 ((i : Int) + 1) = (i : Int) + 1 := by first | go_num | (unfold wrap64; omega)
        have hwi : IntKind.i64.wrap ((i : Int) + 1) = (i : Int) + 1 := by rw [IntWalk.i64_left]; exact hwr
        have zl : ¬ (l.length : Int) = 0 := by omega
        have zl2 : ¬ l.length = 0 := by omega
        have zl3 : ¬ l = [] := fun e => zl2 (by rw [e]; rfl)
        have z2 : (0 : Int) ≤ (m1 : Int) := by omega
        have z3 : (m1 : Int) < (l.length : Int) := by omega
        have z4 : (i : Int) ≤ (c1 : Int) := by omega
        have z5 : ¬ (x : Int) < (z : Int) := by omega
        have z6 : (0 : Int) < (l.length : Int) := by omega
        clear hHeld b4 r6 HHe HKe HW q0 q1 q2 q3 d0
        go_wp2_with fail
        go_region_held3 (fun W => W.cell? ⟨k1, 0, none⟩ = some (.slice (some ⟨g1, 0, none⟩) l.length c1) ∧ W.cell? ⟨g1, i, none⟩ = some (.int .i64 (x : Int)) ∧ W.cell? ⟨g1, m1, none⟩ = some (.int .i64 (y : Int)) ∧ W.cell? ⟨g1, 0, none⟩ = some (.int .i64 (z : Int))) (first | go_keep) ((go_at_call 10; first | (with_reducible refine (HH1.out _ ((Below.refl _ _).drew)).mono ?_; rintro e w5 ⟨rfl, rfl⟩) | (with_reducible refine (HH2.out _ ((Below.refl _ _).drew)).mono ?_; rintro e w5 ⟨rfl, rfl⟩)))
        rename_i hH2
        have HN := (show Hid (CyS w w4.drew (.slice A gs.length c) k1 B0 (.slice (some ⟨g1, 0, none⟩) l.length c1) l (p : Int) (q : Int)) from HW4.out.1.later ((Below.refl _ _).drew))
        clear hH2 HH1 HH2 HK4 HW4 y0 y1 y2 y3
        generalize w4.drew = w6 at *
        go_wp2_with fail
        go_roundw
        case rel => exact ⟨i + 1, by omega, by go_num, HN⟩
        case measure => simp [intOf]; omega
      · obtain rfl : i = l.length := by omega
        have z6 : (0 : Int) < (l.length : Int) := by omega
        have HB := (show Hid (Below w.heap.size w wr) from HW.out.b)
        clear HW HC
        go_wp2_with fail
        refine (HWk.out _).mono ?_
        rintro e w8 ⟨rfl, b8⟩
        have HF := (show Hid (Below w.heap.size w w8) from HB.out.trans (b8.mono HB.out.size))
        clear b8 HB
        go_wp2_with fail
        go_ret
        exact ⟨rfl, HF.out⟩
  · have hl0 : l = [] := by
      by_cases hz : (ckG gs).2 = 0
      · obtain ⟨_, _, _, _, _, h2⟩ := HV1.out.2 hz
        rcases h2 with ⟨_, _, _, _, e⟩ | ⟨_, e, _⟩
        · exact absurd e h100
        · exact e
      · exact (HV1.out.1 hz).1
    subst hl0
    by_cases h101 : cd = 101
    · subst h101
      have hz : (ckG gs).2 = 0 := by
        by_cases e : (ckG gs).2 = 0
        · exact e
        · exfalso
          have h1 := (HV1.out.1 e).2.2
          have h2 := ck_codes gs
          omega
      obtain ⟨now, hkn, s, r, hlp, hp, hq⟩ : ∃ now, KnF gs now ∧ ∃ s r, lpG gs (nbE now) gs.length = s :: r ∧ p = s.1 ∧ q = s.2 := by
        obtain ⟨now, k1, _, _, _, h2⟩ := HV1.out.2 hz
        rcases h2 with ⟨_, _, _, _, q⟩ | ⟨_, _, ⟨s, r, e1, e2, e3, _⟩ | ⟨_, _, _, q⟩⟩
        · omega
        · exact ⟨now, k1, s, r, e1, e2, e3⟩
        · omega
      subst hp
      subst hq
      have HLo := (show Hid (∀ _ : Unit, Calls Try.prog 8 #[.agg #[.slice A gs.length c]] w2 fun e w' => (∃ (g9 c9 : Nat), e = .returned (.tuple #[.slice (some ⟨g9, 0, none⟩) (r.length + 1) c9, .int .i64 0]) ∧ w'.cell? ⟨g9, 0, none⟩ = some (.int .i64 (s.1 : Int)) ∧ w'.cell? ⟨g9, 1, none⟩ = some (.int .i64 (s.2 : Int))) ∧ Below w2.heap.size w2 w') from fun _ => by
        refine (floops_any gs A c w2 (HP.out.later HS.out.b)).mono ?_
        rintro e w' ⟨hh, b⟩
        obtain ⟨now2, v, k2, _, rfl, ho⟩ := hh.2 hz
        obtain rfl := kf_same hkn k2
        rw [hlp] at ho
        obtain ⟨A9, c9, rfl⟩ := own_sg ho
        obtain ⟨g9, rfl, _, y0, y1⟩ := fs_at ho (k := 0) (s := s) rfl
        exact ⟨⟨g9, c9, rfl, y0, y1⟩, b⟩)
      clear hz hkn hlp HV1 h100
      have HE2 := (show Hid (w1.alloc (.cells #[.slice A1 0 c1, .int .i64 (s.1 : Int), .int .i64 (s.2 : Int)] 29) = w2) from HE2.out)
      go_wp2_with (rw [HE2.out])
      clear HE2 x2 d2
      generalize w1.heap.size = k1 at *
      refine (HLo.out ()).mono ?_
      rintro e w3 ⟨⟨g9, c9, rfl, y0, y1⟩, b3⟩
      have HS3 := (show Hid (CyS w w3 (.slice A gs.length c) k1 B0 (.slice A1 ([] : List Nat).length c1) [] (s.1 : Int) (s.2 : Int)) from HS.out.later b3)
      have e0 := HS3.out.d.c0
      have e1 := HS3.out.d.c1
      have e2 := HS3.out.d.c2
      have hse := sp_eq s.1 s.2
      have z0 : (0 : Int) < ((r.length + 1 : Nat) : Int) := by omega
      have z1 : (0 : Int) < (r.length : Int) + 1 := by omega
      have HKp := (show Hid (∀ W, Below w3.heap.size w3 W → W.cell? ⟨k1, 0, none⟩ = some (.slice A1 0 c1) ∧ W.cell? ⟨k1, 1, none⟩ = some (.int .i64 (s.1 : Int)) ∧ W.cell? ⟨k1, 2, none⟩ = some (.int .i64 (s.2 : Int)) ∧ W.cell? ⟨g9, 0, none⟩ = some (.int .i64 (s.1 : Int)) ∧ W.cell? ⟨g9, 1, none⟩ = some (.int .i64 (s.2 : Int))) from fun W hW => by
        have h := HS3.out.later hW
        exact ⟨h.d.c0, h.d.c1, h.d.c2, (hW.cell (p := ⟨g9, 0, none⟩) (World.block_lt_of_cell? w3 _ y0)).trans y0, (hW.cell (p := ⟨g9, 1, none⟩) (World.block_lt_of_cell? w3 _ y1)).trans y1⟩)
      have HLv := (show Hid (∀ W, Below w3.heap.size w3 W → Calls Try.prog 7 #[] W fun e w' => e = .returned (.bool true) ∧ Below w3.heap.size w3 w') from fun W hW => (HWk.out W).mono fun e w' ⟨h1, h2⟩ => ⟨h1, hW.trans (h2.mono hW.size)⟩)
      clear HLo HS b3
      go_wp2_with fail
      go_region_held3 (fun W => W.cell? ⟨k1, 0, none⟩ = some (.slice A1 0 c1) ∧ W.cell? ⟨k1, 1, none⟩ = some (.int .i64 (s.1 : Int)) ∧ W.cell? ⟨k1, 2, none⟩ = some (.int .i64 (s.2 : Int)) ∧ W.cell? ⟨g9, 0, none⟩ = some (.int .i64 (s.1 : Int)) ∧ W.cell? ⟨g9, 1, none⟩ = some (.int .i64 (s.2 : Int))) (first | go_keep | exact HKp.out _ b5) ((go_at_call 7; with_reducible refine (HLv.out _ ((Below.refl _ _).drew)).mono ?_; rintro e w5 ⟨rfl, b5⟩))
      rename_i hH2
      have HF := (show Hid (Below w.heap.size w w5) from HS3.out.b.trans (b5.mono HS3.out.b.size))
      clear hH2 b5 HLv HKp HS3 e0 e1 e2 y0 y1 hse
      go_wp2_with fail
      go_ret
      exact ⟨rfl, HF.out⟩
    · have HB := (show Hid (Below w.heap.size w w2) from HS.out.b)
      clear HV1 HS
      have HE2 := (show Hid (w1.alloc (.cells #[.slice A1 0 c1, .int .i64 (p : Int), .int .i64 (q : Int)] 29) = w2) from HE2.out)
      have t1 : (cd == 100) = false := by rw [beq_eq_false_iff_ne]; exact h100
      have t2 : (cd == 101) = false := by rw [beq_eq_false_iff_ne]; exact h101
      go_wp2_with (rw [HE2.out])
      refine (HWk.out _).mono ?_
      rintro e w8 ⟨rfl, b8⟩
      have HF := (show Hid (Below w.heap.size w w8) from HB.out.trans (b8.mono HB.out.size))
      clear b8 HB
      go_wp2_with fail
      go_ret
      exact ⟨rfl, HF.out⟩
end Go.Proofs.Ytbipjdgholdhcaa.N

namespace Go.Proofs.Ytbipjdgholdhcaa
open Go.ChangeShapes Go.WideShapes Go.ChangeAt Go.RowKit
open Go.ChangeMaps (open_string shut_string)
set_option maxRecDepth 100000 in
theorem fordCycle_lifted (os : Os) (started : os.Started) (H : Type) (enc : TypeId × Value → H) :
    ReturnsInHanded {} Try.checked os 4 .any (Rows.fordCycleSpec.pre6 enc Try.prog Try.f4 Rows.fordCycleRow.domain false) (Rows.fordCycleSpec.post enc Try.prog Try.f4 false true false false) := by
  refine returnsInHanded_of_change_sized (C := Try.checked) T.own started (by kernel_rfl) Try.func4
    (ChangeSpec.witness6 (enc := enc) (C := Try.checked) false ⟨#[], #[.agg #[.slice none 0 0]], []⟩ 8 (by kernel_rfl) (by kernel_rfl) (by kernel_rfl) (by kernel_rfl)) ?_
  intro W base args ds gs before hval0 hW hcnd hsz _
  have hval : ∀ (j : Nat) t v, Try.f4.params[j]? = some t → args[j]? = some v → Value.okWide Try.prog W .any base t v := hval0
  have hW' := hW
  obtain ⟨p, q, hA0, hV, rfl, hfz, hnd⟩ := hW
  have hA : DataW.TrodAll enc Try.prog W 0 (fun _ => true) true Try.f4.params.toList args.toList ds p := hA0
  rw [Try.params4] at hA hval
  have hsz : (DataW.weightsEach Try.prog (#[24].toList ++ Rows.fordCycleSpec.plain.varTypes Try.prog) (ds ++ gs)).all (· ≤ reachBytes) = true := hsz
  obtain ⟨v0, d0, rfl, rfl, h0⟩ := trodAll_one hA
  obtain ⟨rfl, rfl⟩ := trodVars_none hV
  have lt0 : ∀ x ∈ p, x.block < W.heap.size := by obtain ⟨m, hm⟩ := h0; exact DataW.trod_lt m _ _ _ hm
  obtain ⟨A0, c0, L0, rfl, r0⟩ := N.open_gram h0 (hval 0 24 v0 rfl rfl) (T.sized_at hsz (j := 0) rfl rfl)
  clear hA0 hval0
  refine (N.cycle_law L0 A0 c0 W r0).mono fun e W' ⟨he, bel⟩ => ?_
  subst he
  exact ⟨_, rfl, _, _, _, [], _, [], hW', trodAll_mk1 (shut_bool Try.underlying4 _), (trodAll_mk1 (Below.trod T.laidOut (by kernel_rfl) (of_decide_eq_true (by kernel_rfl)) h0 bel lt0)), rfl, bel.frame _, fun h => by cases h⟩

theorem fordCycle_holds : Rows.FordCycleSaid :=
  OpenClaim.holds_of_wide 4 Try.f4 rfl rfl rfl rfl rfl rfl rfl ⟨rfl, rfl, rfl, rfl, rfl⟩ rfl rfl rfl rfl rfl (by kernel_rfl) Try.func4 (by kernel_rfl)
    (of_decide_eq_true (by kernel_rfl)) (by unfold Func.isWrapper; first | (rw [if_pos (by decide +kernel)]; kernel_rfl) | (rw [if_neg (by decide +kernel)]; exact ⟨rfl, rfl⟩))
    (fun os started H enc _ => fordCycle_lifted os started H enc)
end Go.Proofs.Ytbipjdgholdhcaa
