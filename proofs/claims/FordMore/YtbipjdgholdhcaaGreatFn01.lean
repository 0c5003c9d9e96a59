/- FordMore (10.4): of any grammar and any name, a rule of that name, put behind the others, that takes a byte changes no verdict of the program; for grammars and names within the reach of the form. -/
import Derived.Laws.AppendOwnNone
import Derived.Test.YtbipjdgholdhcaaGreatRows
import Derived.Test.YtbipjdgholdhcaaGreatFi19
namespace Go.Proofs.YtbipjdgholdhcaaGreat.N
open Go.RowKit Go.Maps
open Go.Proofs.YtbipjdgholdhcaaGreat.T

open U (nI)
/-- A rule more behind the others, of one node that takes a byte. -/
def gsM (gs : GL) (nm : ByteArray) (nd : Nd) : GL := gs ++ [(nm, [nd])]
theorem gsM_len (gs : GL) (nm : ByteArray) (nd : Nd) : (gsM gs nm nd).length = gs.length + 1 := by unfold gsM; rw [List.length_append]; rfl
theorem gsM_old {gs : GL} {nm : ByteArray} {nd : Nd} {i : Nat} (h : i < gs.length) : (gsM gs nm nd)[i]? = gs[i]? := List.getElem?_append_left h
theorem gsM_new (gs : GL) (nm : ByteArray) (nd : Nd) : (gsM gs nm nd)[gs.length]? = some (nm, [nd]) := by unfold gsM; rw [List.getElem?_append_right (Nat.le_refl _), Nat.sub_self]; rfl
theorem gsM_fd {gs : GL} {nm : ByteArray} {nd : Nd} (s : ByteArray) : fdG (gsM gs nm nd) s = match fdG gs s with
  | some i => some i
  | none => if nm = s then some gs.length else none := fdG_snoc gs (nm, [nd]) s
theorem fd_lt {gs : GL} {s : ByteArray} {k : Nat} (h : fdG gs s = some k) : k < gs.length := by
  obtain ⟨g, hg, _⟩ := fdG_some h
  exact (List.getElem?_eq_some_iff.1 hg).1
/-- Of which rules it is known, where the new one may not match nothing: of the same names. -/
theorem lkB_more {gs : GL} {nm : ByteArray} {nd : Nd} {out : List Bool} (hl : out.length = gs.length) : lkB (gsM gs nm nd) (out ++ [false]) = lkB gs out := by
  funext s
  unfold lkB
  rw [gsM_fd]
  cases h : fdG gs s with
  | some k =>
    have hk := fd_lt h
    show ((out ++ [false])[k]?).getD false = _
    rw [List.getElem?_append_left (by omega)]
  | none =>
    by_cases e : nm = s
    · simp only [if_pos e]
      rw [List.getElem?_append_right (by omega), ← hl, Nat.sub_self]
      rfl
    · simp only [if_neg e]
theorem nu_any {nd : Nd} (h3 : nd.op = 3) (x y : Bool) (r : ByteArray → Bool) : nuD nd x y r = false := by
  unfold nuD
  rw [if_neg (by omega), if_pos (by omega)]
theorem nuLa_any {nd : Nd} (h3 : nd.op = 3) (kd : Nat → List Nat) (r : ByteArray → Bool) : nuLa kd r [nd] = false := by
  unfold nuLa
  have e : nuL kd r [nd] ([nd] : List Nd).length = [nuD nd _ _ r] := nuL_succ (k := 0) (L := [nd]) rfl
  rw [e, nu_any h3]
  rfl
/-- Which rules may match nothing: the same, and the new one not. -/
theorem nb_more {gs : GL} {nm : ByteArray} {nd : Nd} {now now2 : List Em} (h3 : nd.op = 3) (hk : KnF gs now) (hl : now.length = gs.length) (hk2 : KnF (gsM gs nm nd) now2) (hl2 : now2.length = (gsM gs nm nd).length) : nbE now2 = nbE now ++ [false] := by
  have hn2 := gsM_len gs nm nd
  have f1 : ∀ (i : Nat), i < gs.length → ∀ g, gs[i]? = some g → (nbE now)[i]? = some (nuLa (kdR g.2) (lkB gs (nbE now)) g.2) := fun i _ g hg => kf_fix hk hg
  have f2 : ∀ (i : Nat) g, (gsM gs nm nd)[i]? = some g → (nbE now2)[i]? = some (nuLa (kdR g.2) (lkB (gsM gs nm nd) (nbE now2)) g.2) := fun i g hg => kf_fix hk2 hg
  have le1 : (nbE now).length = gs.length := by unfold nbE; rw [List.length_map]; exact hl
  have le2 : (nbE now2).length = gs.length + 1 := by unfold nbE; rw [List.length_map]; omega
  -- what may match nothing may do so with the new rule
  have a1 : ∀ (i : Nat), (nbE now)[i]? = some true → ((nbE now2).take gs.length)[i]? = some true := fun i hi => by
    obtain ⟨R, bd, m, _, _, e, _⟩ := hk
    refine pg_below (gs := gs) (out := (nbE now2).take gs.length) (by rw [List.length_take]; omega) (fun j g hg q => ?_) bd m i (by rw [← e]; exact hi)
    have hj := (List.getElem?_eq_some_iff.1 hg).1
    rw [List.getElem?_take_of_lt hj, f2 j g (by rw [gsM_old hj]; exact hg)]
    refine congrArg some (nuLa_mono (fun n _ q2 => ?_) q)
    unfold lkB at q2 ⊢
    rw [gsM_fd]
    cases hf : fdG gs n.tx with
    | none => rw [hf] at q2; cases q2
    | some k =>
      rw [hf] at q2
      have hk := fd_lt hf
      have q2 : (((nbE now2).take gs.length)[k]?).getD false = true := q2
      rw [List.getElem?_take_of_lt hk] at q2
      exact q2
  have a2 : ∀ (i : Nat), (nbE now2)[i]? = some true → (nbE now ++ [false])[i]? = some true := fun i hi => by
    obtain ⟨R, bd, m, _, _, e, _⟩ := hk2
    refine pg_below (gs := gsM gs nm nd) (out := nbE now ++ [false]) (by rw [List.length_append, List.length_singleton]; omega) (fun j g hg q => ?_) bd m i (by rw [← e]; exact hi)
    rw [lkB_more le1] at q
    have hj := (List.getElem?_eq_some_iff.1 hg).1
    by_cases e : j < gs.length
    · rw [gsM_old e] at hg
      rw [List.getElem?_append_left (by omega), f1 j e g hg, q]
    · have ej : j = gs.length := by omega
      subst ej
      rw [gsM_new] at hg
      cases hg
      rw [nuLa_any h3] at q
      cases q
  apply List.ext_getElem?
  intro i
  by_cases hi : i < gs.length + 1
  · obtain ⟨x, e1⟩ : ∃ x, (nbE now2)[i]? = some x := ⟨_, List.getElem?_eq_getElem (by omega)⟩
    obtain ⟨y, e2⟩ : ∃ x, (nbE now ++ [false])[i]? = some x := ⟨_, List.getElem?_eq_getElem (by rw [List.length_append, List.length_singleton]; omega)⟩
    rw [e1, e2]
    congr 1
    rw [Bool.eq_iff_iff]
    constructor
    · intro q
      rw [q] at e1
      have := a2 i e1
      rw [e2] at this
      exact Option.some.inj this
    · intro q
      rw [q] at e2
      by_cases hi2 : i < gs.length
      · rw [List.getElem?_append_left (by omega)] at e2
        have := a1 i e2
        rw [List.getElem?_take_of_lt hi2, e1] at this
        exact Option.some.inj this
      · rw [List.getElem?_append_right (by omega), show i - (nbE now).length = 0 from by omega] at e2
        cases e2
  · rw [List.getElem?_eq_none (by omega), List.getElem?_eq_none (by rw [List.length_append, List.length_singleton]; omega)]
theorem hbN_c {n : Nd} {x y : Nat → Bool} {nx : Bool} {c c2 : ByteArray → Option Nat} (h : n.op = 6 → c n.tx = c2 n.tx) : hbN n x y nx c = hbN n x y nx c2 := by
  unfold hbN
  by_cases e : n.op = 6
  · rw [if_pos e, if_pos e, h e]
  · rw [if_neg e, if_neg e]
theorem hbL_c {kd : Nat → List Nat} {may : Nat → Bool} {c c2 : ByteArray → Option Nat} {L : List Nd} (h : ∀ n ∈ L, n.op = 6 → c n.tx = c2 n.tx) : ∀ k, hbL kd may c L k = hbL kd may c2 L k := by
  intro k
  induction k with
  | zero => rfl
  | succ k ih =>
    cases e : L[k]? with
    | none =>
      rw [hbL, hbL, e]
      exact ih
    | some n => rw [hbL_succ e, hbL_succ e, ih, hbN_c (h n (List.mem_of_getElem? e))]
theorem hbA_c {kd : Nat → List Nat} {may : Nat → Bool} {c c2 : ByteArray → Option Nat} {L : List Nd} (h : ∀ n ∈ L, n.op = 6 → c n.tx = c2 n.tx) (k : Nat) : hbA kd may c L k = hbA kd may c2 L k := by
  unfold hbA
  rw [hbL_c h]
theorem hbA_any {nd : Nd} (h3 : nd.op = 3) (kd : Nat → List Nat) (may : Nat → Bool) (c : ByteArray → Option Nat) (q : Nat) : hbA kd may c [nd] (([nd] : List Nd).length - 1) q = false := by
  unfold hbA
  have e : hbL kd may c [nd] ([nd] : List Nd).length = [hbN nd _ _ _ c] := hbL_succ (k := 0) (L := [nd]) rfl
  rw [e]
  show hbN nd _ _ _ c q = false
  unfold hbN
  rw [if_neg (by omega), if_neg (by omega), if_neg (by omega), if_neg (by omega), if_pos (by omega)]
/-- The heads are the same. -/
theorem hd_more {gs : GL} {nm : ByteArray} {nd : Nd} {nb : List Bool} (h3 : nd.op = 3) (hR : RtG gs) (hl : nb.length = gs.length) : hdM (gsM gs nm nd) (nb ++ [false]) = hdM gs nb := by
  funext i q
  by_cases hi : i < gs.length
  · have hg : gs[i]? = some gs[i] := List.getElem?_eq_getElem hi
    rw [hdM_of hg, hdM_of (gs := gsM gs nm nd) (by rw [gsM_old hi]; exact hg), lkB_more hl]
    exact congrFun (hbA_c (fun n hn h6 => by
      obtain ⟨k, hk⟩ := hR.dn.c gs[i] (List.getElem_mem _) n hn h6
      rw [gsM_fd, hk]) _) q
  · by_cases e : i = gs.length
    · subst e
      rw [hdM_of (gsM_new gs nm nd), hbA_any h3]
      unfold hdM
      rw [List.getElem?_eq_none (Nat.le_refl _)]
    · unfold hdM
      rw [List.getElem?_eq_none (by rw [gsM_len]; omega), List.getElem?_eq_none (by omega)]
/-- The loops are the same. -/
theorem lp_more {gs : GL} {nm : ByteArray} {nd : Nd} {nb : List Bool} (h3 : nd.op = 3) (hl : nb.length = gs.length) : lpG (gsM gs nm nd) (nb ++ [false]) (gsM gs nm nd).length = lpG gs nb gs.length := by
  have key : ∀ i, i ≤ gs.length → lpG (gsM gs nm nd) (nb ++ [false]) i = lpG gs nb i := by
    intro i
    induction i with
    | zero => intro _; rfl
    | succ i ih =>
      intro h
      have hg : gs[i]? = some gs[i] := List.getElem?_eq_getElem (by omega)
      rw [lpG_succ hg, lpG_succ (gs := gsM gs nm nd) (by rw [gsM_old (by omega)]; exact hg), ih (by omega), lkB_more hl]
  rw [gsM_len, lpG_succ (gsM_new gs nm nd), key _ (Nat.le_refl _)]
  have e : lpK gs.length [nd] (nuA (kdR [nd]) (lkB (gsM gs nm nd) (nb ++ [false])) [nd]) ([nd] : List Nd).length = [] := by
    have h : rpB nd = false := by
      unfold rpB
      rw [h3]
      rfl
    rw [show ([nd] : List Nd).length = 0 + 1 from rfl, lpK_succ (k := 0) (L := [nd]) rfl, h]
    rfl
  show lpG gs nb gs.length ++ lpK gs.length [nd] _ ([nd] : List Nd).length = _
  rw [e, List.append_nil]
theorem rc_more {n : Nat} {c : Mx} (hc : ∀ i j, c i j = true → i < n ∧ j < n) {i j : Nat} : Rc (n + 1) c i j ↔ Rc n c i j := by
  constructor
  · intro h
    exact (Rc.least (n := n + 1) (c := c) (d := fun i j => Rc n c i j ∧ i < n ∧ j < n) (fun i j q => ⟨Rc.of q, hc i j q⟩) (fun i k j _ a b => ⟨Rc.trans a.2.2 a.1 b.1, a.2.1, b.2.2⟩) h).1
  · intro h
    exact Rc.least (n := n) (c := c) (d := fun i j => Rc (n + 1) c i j) (fun i j q => Rc.of q) (fun i k j hk a b => Rc.trans (by omega) a b) h
theorem cy_more {n : Nat} {c : Mx} (hc : ∀ i j, c i j = true → i < n ∧ j < n) {l : List Nat} (h : CyR (n + 1) c l) : CyR n c l := by
  rcases h with ⟨e, h⟩ | ⟨r, m, hd, hq, hp⟩
  · exact .inl ⟨e, fun r q => h r ((rc_more hc).2 q)⟩
  · exact .inr ⟨r, m, hd, fun q h1 h2 => hq q h1 ((rc_more hc).2 h2), hp⟩
/-- What Check says of the grammar without the new rule, where it is right with it: nothing, no rules, or a name that is not there. -/
theorem ck_more {gs : GL} {nm : ByteArray} {nd : Nd} (h2 : RtG (gsM gs nm nd)) : (ckG gs).2 = 0 ∨ (ckG gs).2 = 3 ∨ (ckG gs).2 = 81 := by
  unfold ckG
  by_cases h0 : gs.length = 0
  · rw [if_pos h0]
    exact .inr (.inl rfl)
  rw [if_neg h0]
  have hle := h2.n2
  rw [gsM_len] at hle
  rw [if_neg (by omega)]
  have hm : ∀ g ∈ gs, g ∈ gsM gs nm nd := fun g hg => List.mem_append_left _ hg
  have hs := h2.sm
  have e : (c1G gs 0 0 gs).2 = 0 := by
    refine (c1G_ok gs 0 0 (by omega)).2 ⟨fun k g hg => ?_, ?_⟩
    · refine ⟨?_, ?_, h2.ck g (hm g (List.mem_of_getElem? hg))⟩
      · rcases h2.nm g (hm g (List.mem_of_getElem? hg)) with q | ⟨_, q⟩
        · exact .inl q
        · rw [gsM_len] at q
          omega
      · rw [Nat.zero_add]
        refine tw_iff.2 (fun i j g h hi hj e => ?_) k g hg
        have hi2 := (List.getElem?_eq_some_iff.1 hi).1
        have hj2 := (List.getElem?_eq_some_iff.1 hj).1
        exact h2.dn.d i j g h (by rw [gsM_old hi2]; exact hi) (by rw [gsM_old hj2]; exact hj) e
    · unfold gsM at hs
      rw [List.map_append, List.sum_append] at hs
      omega
  rw [if_neg (fun q => q e)]
  have key : ∀ (l : GL) (i : Nat), (unG gs i l).2 = 0 ∨ (unG gs i l).2 = 81 := by
    intro l
    induction l with
    | nil => intro i; exact .inl rfl
    | cons a r ih =>
      intro i
      rw [unG]
      cases unN gs 0 a.2 with
      | some k => exact .inr rfl
      | none => exact ih (i + 1)
  rcases key gs 0 with q | q
  · exact .inl q
  · exact .inr (.inr q)
end Go.Proofs.YtbipjdgholdhcaaGreat.N

namespace Go.Proofs.YtbipjdgholdhcaaGreat.N
open Go.RowKit
open Go.Proofs.YtbipjdgholdhcaaGreat.T (RdN below_drewN below_box node_neq ndE)
/-- A slice reads as a grammar's rules. -/
def GrR (W : World) (u : Value) (gs : List (ByteArray × List Nd)) : Prop := ∃ A c, u = .slice A gs.length c ∧ ∀ (k : Nat) g, gs[k]? = some g → ∃ b o A2 c2, A = some ⟨b, o, none⟩ ∧ b < W.heap.size ∧ W.cell? ⟨b, o + k * 2, none⟩ = some (.string g.1) ∧ W.cell? ⟨b, o + k * 2 + 1, none⟩ = some (.slice A2 g.2.length c2) ∧ RdN W A2 g.2
end Go.Proofs.YtbipjdgholdhcaaGreat.N

namespace Go.Proofs.YtbipjdgholdhcaaGreat.N
open Go.RowKit Go.Maps
open Go.Proofs.YtbipjdgholdhcaaGreat.T
theorem vd_doc {gs : GL} {l : List Nat} {p q : Nat} {cd : Int} (h : VdR gs l p q cd) : ∃ now, ((ckG gs).2 = 0 → KnF gs now ∧ now.length = gs.length) ∧ VdD gs now l p q cd := by
  by_cases hz : (ckG gs).2 = 0
  · obtain ⟨now, h1, h2, h3⟩ := h.2 hz
    exact ⟨now, fun _ => ⟨h1, h2⟩, fun q => absurd hz q, fun _ => h3⟩
  · exact ⟨[], fun q => absurd q hz, h.1, fun q => absurd q hz⟩
theorem vd_one {gs : GL} {now : List Em} {l l2 : List Nat} {p q p2 q2 : Nat} {cd cd2 : Int} (h : VdD gs now l p q cd) (g : VdD gs now l2 p2 q2 cd2) : l2 = l ∧ p2 = p ∧ q2 = q ∧ cd2 = cd := by
  by_cases hz : (ckG gs).2 = 0
  · have hc := hdM_lt (nb := nbE now) (ckG_ok.1 hz)
    obtain ⟨cy, h1, h2⟩ := h.2 hz
    obtain ⟨cy2, g1, g2⟩ := g.2 hz
    obtain rfl := h1.one hc g1
    rcases h2 with ⟨a1, rfl, rfl, rfl, rfl⟩ | ⟨a1, rfl, h2⟩
    · rcases g2 with ⟨_, rfl, rfl, rfl, rfl⟩ | ⟨b1, _⟩
      · exact ⟨rfl, rfl, rfl, rfl⟩
      · exact absurd b1 a1
    · rcases g2 with ⟨b1, _⟩ | ⟨_, rfl, g2⟩
      · exact absurd a1 b1
      · rcases h2 with ⟨s, r, e1, rfl, rfl, rfl⟩ | ⟨e1, rfl, rfl, rfl⟩
        · rcases g2 with ⟨s2, r2, e2, rfl, rfl, rfl⟩ | ⟨e2, _⟩
          · rw [e1] at e2
            obtain ⟨rfl, _⟩ := List.cons.inj e2
            exact ⟨rfl, rfl, rfl, rfl⟩
          · rw [e1] at e2; cases e2
        · rcases g2 with ⟨s2, r2, e2, _⟩ | ⟨_, rfl, rfl, rfl⟩
          · rw [e1] at e2; cases e2
          · exact ⟨rfl, rfl, rfl, rfl⟩
  · obtain ⟨rfl, h1, rfl⟩ := h.1 hz
    obtain ⟨rfl, g1, rfl⟩ := g.1 hz
    rw [← g1] at h1
    obtain ⟨rfl, rfl⟩ := Prod.mk.inj h1
    exact ⟨rfl, rfl, rfl, rfl⟩
theorem vd_len {gs : GL} {now : List Em} {l : List Nat} {p q : Nat} {cd : Int} (h : VdD gs now l p q cd) : l.length ≤ 200 := by
  by_cases hz : (ckG gs).2 = 0
  · have hR := ckG_ok.1 hz
    obtain ⟨cy, h1, h2⟩ := h.2 hz
    rcases h2 with ⟨_, rfl, _⟩ | ⟨_, rfl, _⟩
    · rcases h1 with ⟨rfl, _⟩ | ⟨r, m, hd, _, hp⟩
      · exact Nat.zero_le _
      · rw [hp.n]
        exact Nat.le_trans (Ds.few (hdM_lt hR) hd) hR.n2
    · exact Nat.zero_le _
  · rw [(h.1 hz).1]; exact Nat.zero_le _
end Go.Proofs.YtbipjdgholdhcaaGreat.N

namespace Go.Proofs.YtbipjdgholdhcaaGreat.N
open Go.RowKit Go.Maps
open Go.Proofs.YtbipjdgholdhcaaGreat.T

open U (nI)
/-- What Check says of a grammar, and with the new rule: the same; or it was wrong without. -/
theorem vd_more {gs : GL} {nm : ByteArray} {nd : Nd} {l l2 : List Nat} {p q p2 q2 : Nat} {e e2 : Int} (h3 : nd.op = 3) (hR2 : RtG (gsM gs nm nd)) (h : VdR gs l p q e) (g : VdR (gsM gs nm nd) l2 p2 q2 e2) : ((e = 3 ∨ e = 81) ∧ (e2 = 0 ∨ e2 = 100 ∨ e2 = 101)) ∨ (l2 = l ∧ p2 = p ∧ q2 = q ∧ e2 = e) := by
  obtain ⟨now2, k1, k2, cy2, k3, k4⟩ := g.2 (ckG_ok.2 hR2)
  by_cases hz : (ckG gs).2 = 0
  · right
    obtain ⟨now, m1, m2, cy, m3, m4⟩ := h.2 hz
    have hR := ckG_ok.1 hz
    have hnl : (nbE now).length = gs.length := by unfold nbE; rw [List.length_map]; exact m2
    rw [nb_more h3 m1 m2 k1 k2, hd_more h3 hR hnl, gsM_len] at k3
    rw [nb_more h3 m1 m2 k1 k2, lp_more h3 hnl] at k4
    have hg : VdD gs now l2 p2 q2 e2 := ⟨fun q => absurd hz q, fun _ => ⟨cy2, cy_more (hdM_lt hR) k3, k4⟩⟩
    have hh : VdD gs now l p q e := ⟨fun q => absurd hz q, fun _ => ⟨cy, m3, m4⟩⟩
    exact vd_one hh hg
  · left
    refine ⟨?_, ?_⟩
    · rw [(h.1 hz).2.2]
      rcases ck_more hR2 with q | q | q
      · exact absurd q hz
      · exact .inl q
      · exact .inr q
    · rcases k4 with ⟨_, _, _, _, e⟩ | ⟨_, _, ⟨_, _, _, _, _, e⟩ | ⟨_, _, _, e⟩⟩
      · exact .inr (.inl e)
      · exact .inr (.inr e)
      · exact .inl e
end Go.Proofs.YtbipjdgholdhcaaGreat.N

namespace Go.Proofs.YtbipjdgholdhcaaGreat.N
open Go.RowKit Go.Maps
open Go.Proofs.YtbipjdgholdhcaaGreat.T
/-- A rule that lies in memory of its own: it, and its pattern's list. -/
abbrev Rg : Type := (ByteArray × List Nd) × Value
def rgV (x : Rg) : List Value := [.string x.1.1, x.2]
def rgc (l : List Rg) : List Value := l.flatMap rgV
theorem rgc_app (a b : List Rg) : rgc (a ++ b) = rgc a ++ rgc b := List.flatMap_append
theorem rgc_one (x : Rg) : rgc [x] = rgV x := by unfold rgc; rw [List.flatMap_cons, List.flatMap_nil, List.append_nil]
theorem rgc_get (l : List Rg) : ∀ (k j : Nat) (x : Rg) (u : Value), l[k]? = some x → (rgV x)[j]? = some u → (rgc l)[k * 2 + j]? = some u := by
  induction l with
  | nil => intro k j x u h; cases h
  | cons a l ih =>
    intro k j x u h hu
    have e : rgc (a :: l) = rgV a ++ rgc l := by unfold rgc; rw [List.flatMap_cons]
    rw [e]
    have hj : j < 2 := (List.getElem?_eq_some_iff.1 hu).1
    cases k with
    | zero =>
      cases h
      rw [Nat.zero_mul, Nat.zero_add, List.getElem?_append_left (by show j < 2; exact hj)]
      exact hu
    | succ k =>
      have h2 : l[k]? = some x := by simpa using h
      have e2 : (rgV a).length = 2 := rfl
      rw [List.getElem?_append_right (by rw [e2]; omega), e2, show (k + 1) * 2 + j - 2 = k * 2 + j from by omega]
      exact ih k j x u h2 hu
/-- A grammar that lies in memory of its own, rule by rule. -/
structure OG (W : World) (B : Nat) (v : Value) (ov : List Rg) : Prop where
  o : W.ownsRow B 54 2 v ov.length (rgc ov)
  e : ∀ x ∈ ov, W.ownsRow B 50 7 x.2 x.1.2.length (ndc x.1.2)
  ap : ov.Pairwise fun x y => ∀ k, x.2.ownBlock = some k → y.2.ownBlock ≠ some k
theorem OG.nil (W : World) (B : Nat) : OG W B (.slice none 0 0) [] := ⟨World.ownsRow_nil _ _ _ _, (fun x hx => by cases hx), List.Pairwise.nil⟩
theorem OG.later {W W' : World} {B : Nat} {v : Value} {ov : List Rg} (h : OG W B v ov) (hb : Below W.heap.size W W') : OG W' B v ov :=
  ⟨T.own_below h.o hb, fun x hx => T.own_below (h.e x hx) hb, h.ap⟩
theorem OG.same {W W' : World} {B : Nat} {v : Value} {ov : List Rg} (h : OG W B v ov) (hk : ∀ k, (v.ownBlock = some k ∨ ∃ x ∈ ov, x.2.ownBlock = some k) → W'.heap[k]? = W.heap[k]?) : OG W' B v ov :=
  ⟨own_same h.o fun k q => hk k (.inl q), fun x hx => own_same (h.e x hx) fun k q => hk k (.inr ⟨x, hx, q⟩), h.ap⟩
theorem OG.ne {W : World} {B i : Nat} {v a : Value} {ov : List Rg} (h : OG W B v ov) (hx : GX W i a) {k : Nat} (hk : v.ownBlock = some k ∨ ∃ x ∈ ov, x.2.ownBlock = some k) : k ≠ i := by
  rcases hk with q | ⟨x, hx2, q⟩
  · exact hx.ne h.o (by decide) q
  · exact hx.ne (h.e x hx2) (by decide) q
theorem OG.push {W wA w5 : World} {B : Nat} {v u v2 : Value} {ov : List Rg} {nm : ByteArray} {L : List Nd} (h : OG W B v ov) (hB : B ≤ W.heap.size) (hA : Below W.heap.size W wA) (hl : wA.ownsRow W.heap.size 50 7 v2 L.length (ndc L)) (hg : (wA.alloc (.cells #[.string nm, v2] 54)).grownBy w5 v.ownBlock) (ho : w5.ownsRow B 54 2 u (ov.length + 1) (rgc ov ++ [.string nm, v2])) : OG w5 B u (ov ++ [((nm, L), v2)]) := by
  have h2 : OG (wA.alloc (.cells #[.string nm, v2] 54)) B v ov := (h.later hA).later (below_box wA _)
  have hl2 : (wA.alloc (.cells #[.string nm, v2] 54)).ownsRow W.heap.size 50 7 v2 L.length (ndc L) := T.own_below hl (below_box wA _)
  have key : ∀ (b : Nat) (y : Value) (n : Nat) (zs : List Value), (wA.alloc (.cells #[.string nm, v2] 54)).ownsRow b 50 7 y n zs → w5.ownsRow b 50 7 y n zs := fun b y n zs hy =>
    own_same hy fun k hk => hg.block k (World.ownsRow.lt hy k hk).2 (fun q => own_apart h2.o hy (by decide) q.symm hk)
  refine ⟨?_, fun y hy => ?_, ?_⟩
  · rw [List.length_append, rgc_app, rgc_one]
    exact ho
  · rcases List.mem_append.1 hy with q | q
    · exact key _ _ _ _ (h2.e y q)
    · rw [List.mem_singleton.1 q]
      exact T.own_base (key _ _ _ _ hl2) hB
  · refine List.pairwise_append.2 ⟨h.ap, List.pairwise_singleton _ _, fun x hx y hy k hk q => ?_⟩
    rw [List.mem_singleton.1 hy] at q
    have q1 := ((h.e x hx).lt k hk).2
    have q2 := (hl.lt k q).1
    omega
theorem OG.cell {W : World} {B g cap n : Nat} {ov : List Rg} (h : OG W B (.slice (some ⟨g, 0, none⟩) n cap) ov) {k : Nat} {x : Rg} (hk : ov[k]? = some x) : W.cell? ⟨g, k * 2, none⟩ = some (.string x.1.1) ∧ W.cell? ⟨g, k * 2 + 1, none⟩ = some x.2 := by
  have hc := h.o.cells (g := g) rfl
  have q0 := hc (k * 2 + 0) _ (rgc_get ov k 0 x _ hk rfl)
  have q1 := hc (k * 2 + 1) _ (rgc_get ov k 1 x _ hk rfl)
  rw [Addr.add_lit, Nat.zero_add] at q0 q1
  exact ⟨q0, q1⟩
theorem own_sl {W : World} {B e s n : Nat} {v : Value} {xs : List Value} (h : W.ownsRow B e s v n xs) : ∃ A cap, v = .slice A n cap := by
  rcases h.2 with ⟨rfl, rfl⟩ | ⟨g, cap, cur, rfl, _⟩
  · exact ⟨_, _, rfl⟩
  · exact ⟨_, _, rfl⟩
theorem own_rdn {W : World} {B : Nat} {v : Value} {L : List Nd} (h : W.ownsRow B 50 7 v L.length (ndc L)) : ∃ A c, v = .slice A L.length c ∧ RdN W A L := by
  obtain ⟨A, c, rfl⟩ := own_sl h
  refine ⟨A, c, rfl, fun q => ?_⟩
  obtain ⟨g, cap, e, _⟩ := h.form (by cases L with | nil => exact absurd rfl q | cons a l => exact Nat.succ_pos _)
  obtain ⟨rfl, rfl⟩ : A = some ⟨g, 0, none⟩ ∧ c = cap := by injection e with e1 e2 e3; exact ⟨e1, e3⟩
  exact ⟨g, 0, rfl, (h.lt g rfl).2, own_ndl (xs := []) (by rw [List.append_nil]; exact h)⟩
theorem OG.rd {W : World} {B : Nat} {v : Value} {ov : List Rg} {gs : GL} (h : OG W B v ov) (hm : ov.map (·.1) = gs) : GrR W v gs := by
  have hl : ov.length = gs.length := by rw [← hm, List.length_map]
  have ho := h.o
  obtain ⟨A, c, rfl⟩ := own_sl ho
  refine ⟨A, c, by rw [hl], fun k r hr => ?_⟩
  have hk : k < gs.length := (List.getElem?_eq_some_iff.1 hr).1
  obtain ⟨g, cap, e, _⟩ := ho.form (by omega)
  obtain ⟨rfl, rfl⟩ : A = some ⟨g, 0, none⟩ ∧ c = cap := by injection e with e1 e2 e3; exact ⟨e1, e3⟩
  rw [← hm, List.getElem?_map] at hr
  cases hx : ov[k]? with
  | none => rw [hx] at hr; cases hr
  | some x =>
    rw [hx] at hr
    obtain rfl : x.1 = r := by simpa using hr
    obtain ⟨q0, q1⟩ := h.cell hx
    obtain ⟨A2, c2, e2, r2⟩ := own_rdn (h.e x (List.mem_of_getElem? hx))
    exact ⟨g, 0, A2, c2, rfl, (h.o.lt g rfl).2, by rw [Nat.zero_add]; exact q0, by rw [Nat.zero_add, q1, e2], r2⟩
end Go.Proofs.YtbipjdgholdhcaaGreat.N

namespace Go.Proofs.YtbipjdgholdhcaaGreat.N
open Go.RowKit Go.Maps
open Go.Proofs.YtbipjdgholdhcaaGreat.T
/-- A pattern copied. -/
theorem copy4_some (ad : Addr) (c : Nat) (L : List Nd) (w : World) (hl : L.length * 64 ≤ 140737488351232) (hc : RdN w (some ad) L) :
    Calls Tryz.prog 35 #[.slice (some ad) L.length c] w fun e w' => (∃ v, e = .returned v ∧ w'.ownsRow w.heap.size 50 7 v L.length (ndc L)) ∧ Below w.heap.size w w' := by
  obtain ⟨i0, hinf, hz0, hz1, hz2⟩ := info_parts Tryz.info43
  have hO := own_empty w
  have HB := (show Hid (Below w.heap.size w (w.alloc (.cells #[] 50))) from below_box _ _)
  have HC := (show Hid (∀ (j : Nat) u, (ndc L)[j]? = some u → (w.alloc (.cells #[] 50)).cell? (ad.add j) = some u) from fun j u hj => by
    have h1 := in_cells hc j u hj
    have h2 := World.block_lt_of_cell? w _ h1
    exact ((below_box w (.cells #[] 50)).cell (p := ad.add j) h2).trans h1)
  have HI := (show Hid ((ndc L).length = L.length * 7 ∧ ∀ u ∈ ndc L, u.oneCell' = true) from ⟨ndc_len L, ndc_cell L⟩)
  clear hc
  go_enter Tryz.func35, Tryz.ntmps35
  go_wp2_with (at_builtin; refine wpList_append_own _ rfl _ _ 52 rfl w.heap.size 50 i0 zA 7 64 Tryz.underlying52 hinf hz0 hz1 hz2 rfl (by decide) _ _ _ rfl hO ad L.length c (ndc L) rfl HI.out.1 HC.out HI.out.2 ?c3 ?c4 ?c5 ?_)
  case c3 => unfold maxLen; omega
  case c4 => omega
  case c5 => simp
  intro v1 w1 hown hgrow _
  have HB1 := (show Hid (Below w.heap.size w w1) from HB.out.grown hgrow (by simp) (fun k e => (hO.lt k e).1))
  have HO := (show Hid (w1.ownsRow w.heap.size 50 7 v1 L.length (ndc L)) from hown)
  clear hgrow hO HB hown HC HI
  go_wp2_with fail
  go_ret
  exact ⟨⟨_, rfl, HO.out⟩, HB1.out⟩
theorem copy4_nil (w : World) : Calls Tryz.prog 35 #[.slice none 0 0] w fun e w' => (∃ v, e = .returned v ∧ w'.ownsRow w.heap.size 50 7 v 0 (ndc [])) ∧ Below w.heap.size w w' := by
  obtain ⟨i0, hinf, hz0, hz1, hz2⟩ := info_parts Tryz.info43
  have hO := own_empty w
  have HO := (show Hid ((w.alloc (.cells #[] 50)).ownsRow w.heap.size 50 7 (.slice (some ⟨w.heap.size, 0, none⟩) 0 0) 0 []) from hO)
  have HB := (show Hid (Below w.heap.size w (w.alloc (.cells #[] 50))) from below_box _ _)
  go_enter Tryz.func35, Tryz.ntmps35
  go_wp2_with (at_builtin; refine wpList_append_own_none rfl _ _ 52 rfl w.heap.size 50 i0 7 Tryz.underlying52 hinf _ _ _ rfl hO rfl ?_)
  go_ret
  exact ⟨⟨_, rfl, HO.out⟩, HB.out⟩
theorem copy4_any (A : Option Addr) (c : Nat) (L : List Nd) (w : World) (hl : L.length * 64 ≤ 140737488351232) (h : T.InP w A c L) :
    Calls Tryz.prog 35 #[.slice A L.length c] w fun e w' => (∃ v, e = .returned v ∧ w'.ownsRow w.heap.size 50 7 v L.length (ndc L)) ∧ Below w.heap.size w w' := by
  cases A with
  | none =>
    obtain ⟨rfl, rfl⟩ := h.2 rfl
    exact copy4_nil w
  | some ad => exact copy4_some ad c L w hl h.1
/-- While a grammar is copied. -/
structure CpI (w wr : World) (a v : Value) (ov : List Rg) : Prop where
  o : OG wr w.heap.size v ov
  b : Below w.heap.size w wr
  x : GX wr w.heap.size a
  y : GX wr (w.heap.size + 1) (.slice none 0 0)
  z : GX wr (w.heap.size + 2) v
theorem CpI.later {w wr W' : World} {a v : Value} {ov : List Rg} (h : CpI w wr a v ov) (hb : Below wr.heap.size wr W') : CpI w W' a v ov :=
  ⟨h.o.later hb, h.b.trans (hb.mono h.b.size), h.x.below hb, h.y.below hb, h.z.below hb⟩
theorem CpI.box {w wr wA w5 : World} {a v v2 : Value} {ov : List Rg} {nm : ByteArray} (h : CpI w wr a v ov) (hA : Below wr.heap.size wr wA) (hg : (wA.alloc (.cells #[.string nm, v2] 54)).grownBy w5 v.ownBlock) : GX w5 w.heap.size a ∧ GX w5 (w.heap.size + 1) (.slice none 0 0) ∧ GX w5 (w.heap.size + 2) v := by
  have h2 := (h.later hA).later (below_box wA (.cells #[.string nm, v2] 54))
  exact ⟨h2.x.same (hg.block _ h2.x.lt (fun e => h2.x.ne h2.o.o (by decide) e.symm rfl)), h2.y.same (hg.block _ h2.y.lt (fun e => h2.y.ne h2.o.o (by decide) e.symm rfl)), h2.z.same (hg.block _ h2.z.lt (fun e => h2.z.ne h2.o.o (by decide) e.symm rfl))⟩
theorem CpI.push {w wr wA w5 : World} {a v u v2 : Value} {ov : List Rg} {nm : ByteArray} {L : List Nd} (h : CpI w wr a v ov) (hA : Below wr.heap.size wr wA) (hl : wA.ownsRow wr.heap.size 50 7 v2 L.length (ndc L)) (hg : (wA.alloc (.cells #[.string nm, v2] 54)).grownBy w5 v.ownBlock) (ho : w5.ownsRow w.heap.size 54 2 u (ov.length + 1) (rgc ov ++ [.string nm, v2])) : CpI w (w5.setCell ⟨w.heap.size + 2, 0, none⟩ u) a u (ov ++ [((nm, L), v2)]) := by
  obtain ⟨x5, y5, z5⟩ := h.box hA hg
  have o5 := h.o.push h.b.size hA hl hg ho
  have h2 := (h.later hA).later (below_box wA (.cells #[.string nm, v2] 54))
  have b5 : Below w.heap.size w w5 := h2.b.grown hg h2.b.size (fun k e => (h2.o.o.lt k e).1)
  have key : ∀ (j : Nat), j ≠ w.heap.size + 2 → (w5.setCell ⟨w.heap.size + 2, 0, none⟩ u).heap[j]? = w5.heap[j]? := fun j hj => Below.heap_setCell _ _ _ _ hj
  exact ⟨o5.same fun k hk => key k (o5.ne z5 hk), b5.setCell (p := ⟨w.heap.size + 2, 0, none⟩) (by show w.heap.size ≤ w.heap.size + 2; omega) _, x5.same (key _ (by omega)), y5.same (key _ (by omega)), z5.set _⟩
theorem enters_cp4 (args : Array Value) (w : World) : (callFunc 35 args).run Tryz.prog w = .ok (.enter 35 args) w := enters_of Tryz.func35 (by kernel_rfl) rfl args w
set_option maxRecDepth 100000 in
set_option maxHeartbeats 16000000 in
theorem copyG_any (gs : GL) (A : Option Addr) (c : Nat) (w : World) (hg : GrIn w A c gs) :
    Calls Tryz.prog 20 #[.agg #[.slice A gs.length c]] w fun e w' => (∃ v ov, e = .returned (.agg #[v]) ∧ ov.map (·.1) = gs ∧ OG w' w.heap.size v ov) ∧ Below w.heap.size w w' := by
  obtain ⟨i0, hinf, hz0, hz1, hz2⟩ := info_parts Tryz.info41
  have hl := hg.len
  have HG := (show Hid (∀ k, k < gs.length → ∃ g, gs[k]? = some g ∧ g.2.length * 64 ≤ 140737488351232 ∧ ∃ b o A2 c2, A = some ⟨b, o, none⟩ ∧ b < w.heap.size ∧ w.cell? ⟨b, o + k * 2, none⟩ = some (.string g.1) ∧ w.cell? ⟨b, o + k * 2 + 1, none⟩ = some (.slice A2 g.2.length c2) ∧ T.InP w A2 c2 g.2) from fun k hk => by
    have e : gs[k]? = some gs[k] := List.getElem?_eq_getElem hk
    obtain ⟨b, o, _, _, h1, h2, h3, _, _⟩ := hg.d k _ e
    obtain ⟨A3, c3, h6, h7⟩ := hg.each k _ e
    exact ⟨_, e, h6.2.2.2.1, b, o, A3, c3, h1, h2, h3, h7 b o h1, h6.1, h6.2.1⟩)
  have HA := (show Hid (CpI w (((w.alloc (.cells #[.slice A gs.length c] 24)).alloc (.cells #[.slice none 0 0] 24)).alloc (.cells #[.slice none 0 0] 24)) (.slice A gs.length c) (.slice none 0 0) []) from by
    have s1 := World.size_alloc w (.cells #[.slice A gs.length c] 24)
    have s2 := World.size_alloc (w.alloc (.cells #[.slice A gs.length c] 24)) (.cells #[.slice none 0 0] 24)
    refine ⟨OG.nil _ _, (((Below.refl _ _).alloc (Nat.le_refl _) _).alloc (by omega) _).alloc (by omega) _, ((GX.mk (heap_alloc_new w _)).below (below_box _ _)).below (below_box _ _), (GX.mk ?_).below (below_box _ _), ⟨?_⟩⟩
    · have h := heap_alloc_new (w.alloc (.cells #[.slice A gs.length c] 24)) (.cells #[.slice none 0 0] 24); rw [s1] at h; exact h
    · have h := heap_alloc_new ((w.alloc (.cells #[.slice A gs.length c] 24)).alloc (.cells #[.slice none 0 0] 24)) (.cells #[.slice none 0 0] 24); rw [s2, s1] at h; exact h)
  clear hg
  go_enter Tryz.func20, Tryz.ntmps20
  go_wp2_with fail
  rw [show w.heap.size + 1 + 1 = w.heap.size + 2 from rfl]
  generalize ((w.alloc (.cells #[.slice A gs.length c] 24)).alloc (.cells #[.slice none 0 0] 24)).alloc (.cells #[.slice none 0 0] 24) = w1 at *
  go_loopw [4] (fun t wr => ∃ (k : Nat) (ov : List Rg) (Av : Option Addr) (cv : Nat), k ≤ gs.length ∧ t = .int .i64 (k : Int) ∧ Hid (ov.length = k ∧ ov.map (·.1) = gs.take k) ∧ Hid (CpI w wr (.slice A gs.length c) (.slice Av k cv) ov)) (fun t _ => gs.length - (intOf t).toNat)
  case atStart => exact ⟨0, [], none, 0, Nat.zero_le _, rfl, ⟨rfl, rfl⟩, HA⟩
  case round =>
    obtain ⟨k, ov, Av, cv, hk, rfl, HM, HW⟩ := hrel
    clear HA
    have x0 := HW.out.x.cl
    by_cases hlt : k < gs.length
    · obtain ⟨g, hgk, hgl, b, o, A2, c2, rfl, lb, e0, e1, hin⟩ := HG.out k hlt
      have z0 : (0 : Int) ≤ (k : Int) := by omega
      have z1 : (k : Int) < (gs.length : Int) := by omega
      have hD : Below wr.heap.size wr wr.drew := (Below.refl _ _).drew
      have HLd := (show Hid (CpI w wr.drew (.slice (some ⟨b, o, none⟩) gs.length c) (.slice Av k cv) ov) from HW.out.later hD)
      have d0 := (HLd.out.b.cell (p := ⟨b, o + k * 2, none⟩) lb).trans e0
      have d1 := (HLd.out.b.cell (p := ⟨b, o + k * 2 + 1, none⟩) lb).trans e1
      have dx := HLd.out.x.cl
      have dz := HLd.out.z.cl
      have hsz : w.heap.size ≤ wr.heap.size := HW.out.b.size
      have HCall := (show Hid (∀ _ : Unit, Calls Tryz.prog 35 #[.slice A2 g.2.length c2] wr.drew fun e w' => (∃ A9 c9, e = .returned (.slice A9 g.2.length c9) ∧ w'.ownsRow wr.heap.size 50 7 (.slice A9 g.2.length c9) g.2.length (ndc g.2)) ∧ Below wr.drew.heap.size wr.drew w') from fun _ => by
        refine (copy4_any A2 c2 g.2 wr.drew hgl ⟨hin.1.below HLd.out.b (Nat.le_refl _), hin.2⟩).mono ?_
        rintro e w' ⟨⟨v9, rfl, r9⟩, b9⟩
        obtain ⟨A9, c9, rfl⟩ := own_sl r9
        exact ⟨⟨A9, c9, rfl, r9⟩, b9⟩)
      have HAft := (show Hid (∀ wA, Below wr.drew.heap.size wr.drew wA → wA.cell? ⟨w.heap.size, 0, none⟩ = some (.slice (some ⟨b, o, none⟩) gs.length c) ∧ wA.cell? ⟨b, o + k * 2, none⟩ = some (.string g.1) ∧ wA.cell? ⟨w.heap.size + 2, 0, none⟩ = some (.slice Av k cv) ∧ ∀ ob : Obj, (wA.alloc ob).cell? ⟨w.heap.size + 2, 0, none⟩ = some (.slice Av k cv)) from fun wA hA => by
        have h3 := HLd.out.later hA
        exact ⟨h3.x.cl, (h3.b.cell (p := ⟨b, o + k * 2, none⟩) lb).trans e0, h3.z.cl, fun ob => (h3.later (below_box wA ob)).z.cl⟩)
      have HTk := (show Hid (gs.take (k + 1) = gs.take k ++ [g]) from by rw [List.take_add_one, hgk]; rfl)
      have hov := HM.out.1
      have HO := (show Hid (wr.drew.ownsRow w.heap.size 54 2 (.slice Av k cv) k (rgc ov)) from by have h := HLd.out.o.o; rw [hov] at h; exact h)
      have HPu := (show Hid (∀ (wA w5 : World) (v2 u : Value), Below wr.drew.heap.size wr.drew wA → wA.ownsRow wr.heap.size 50 7 v2 g.2.length (ndc g.2) → (wA.alloc (.cells #[.string g.1, v2] 54)).grownBy w5 (Value.slice Av k cv).ownBlock → w5.ownsRow w.heap.size 54 2 u (k + 1) (rgc ov ++ [.string g.1, v2]) → GX w5 (w.heap.size + 2) (.slice Av k cv) ∧ CpI w (w5.setCell ⟨w.heap.size + 2, 0, none⟩ u) (.slice (some ⟨b, o, none⟩) gs.length c) u (ov ++ [((g.1, g.2), v2)])) from fun wA w5 v2 u hA hl hg ho => by
        have q2 : wr.drew.heap.size = wr.heap.size := rfl
        have hA2 : Below wr.heap.size wr wA := hD.trans (by rw [← q2]; exact hA)
        exact ⟨(HW.out.box hA2 hg).2.2, HW.out.push hA2 hl hg (by rw [HM.out.1]; exact ho)⟩)
      clear hgk hin e0 e1 HG hlt hov
      obtain ⟨nm, L⟩ := g
      simp only at d0 d1 HCall HAft HTk hgl HPu
      go_wp2_with fail
      go_region_law (first
        | (refine step_call1 enters_cp4 rfl _ _ (by rfl) (.slice A2 L.length c2) (by rfl) ?_; with_reducible refine (HCall.out ()).mono ?_; rintro e wA ⟨⟨A9, c9, rfl, rA⟩, bA⟩; refine ⟨_, rfl, ?_⟩; obtain ⟨ax, a0, az, ay⟩ := HAft.out wA bA)
        | (refine step_append_lies _ (by rfl) _ _ _ (by rfl) w.heap.size 54 i0 (.agg #[.string ⟨#[]⟩, .slice none 0 0]) 2 40 Tryz.underlying22 hinf hz0 hz1 hz2 rfl (by omega) _ _ (rgc ov) (by rfl) ((T.own_below HO.out bA).alloc _) ⟨wA.heap.size, 0, none⟩ 1 1 [.string nm, .slice A9 L.length c9] (by rfl) (by rfl) (World.news_of_block (cs := #[.string nm, .slice A9 L.length c9]) (t := 54) (fr := (0, 0)) (heap_alloc_new wA _)) (by intro u hu; simp only [List.mem_cons, List.not_mem_nil, or_false] at hu; rcases hu with rfl | rfl <;> rfl) (by omega) (by unfold maxLen; omega) (by omega) (by have q1 := bA.size; have q2 : wr.drew.heap.size = wr.heap.size := rfl; rw [World.size_alloc]; omega) (wA.heap.size + 1) (by simp) ?_; intro g3 cap3 w5 hown hgrow hat hltg; obtain ⟨hz5, hpu⟩ := HPu.out wA w5 (.slice A9 L.length c9) (.slice (some ⟨g3, 0, none⟩) (k + 1) cap3) bA rA hgrow hown; have HPn := (show Hid _ from hpu); clear hpu; have hzf := hz5.fz; have hzc := hz5.cl; clear hz5))
      all_goals
        clear hown hgrow hat hltg rA bA ax a0 az ay HCall HAft HO HLd HW hD HPu
        generalize w5.setCell ⟨w.heap.size + 2, 0, none⟩ (.slice (some ⟨g3, 0, none⟩) (k + 1) cap3) = w6 at *
        go_wp2_with fail
        go_roundw
        case rel => exact ⟨k + 1, _, _, _, by omega, by go_num, ⟨by rw [List.length_append, HM.out.1]; rfl, by rw [List.map_append, HM.out.2, HTk.out]; rfl⟩, HPn⟩
        case measure => simp [intOf]; omega
    · obtain rfl : k = gs.length := by omega
      have HMm := (show Hid (ov.map (·.1) = gs) from by have := HM.out.2; rw [List.take_length] at this; exact this)
      have hyf := HW.out.y.fz
      have hyc := HW.out.y.cl
      have hzc := HW.out.z.cl
      clear HG HM
      go_wp2_with fail
      refine ret_gx rfl rfl rfl (HW.out.y.set _) ?_
      have h5 := HW.out
      have key : ∀ (j : Nat), j ≠ w.heap.size + 1 → (wr.setCell ⟨w.heap.size + 1, 0, none⟩ (.slice Av gs.length cv)).heap[j]? = wr.heap[j]? := fun j hj => Below.heap_setCell _ _ _ _ hj
      exact ⟨⟨_, ov, rfl, HMm.out, h5.o.same fun j hj => key j (h5.o.ne h5.y hj)⟩, h5.b.setCell (p := ⟨w.heap.size + 1, 0, none⟩) (by show w.heap.size ≤ w.heap.size + 1; omega) _⟩
end Go.Proofs.YtbipjdgholdhcaaGreat.N

namespace Go.Proofs.YtbipjdgholdhcaaGreat.N
open Go.RowKit Go.Maps
open Go.Proofs.YtbipjdgholdhcaaGreat.T

open U (own_get own_slice below_grown)
/-- While a verdict and a copy are held: the verdict's box, its cycle, the copy's box, the copy. -/
structure MrS (w wr : World) (kv kh B1 B2 : Nat) (vc u : Value) (l : List Nat) (p q : Int) (ov : List Rg) : Prop where
  b : Below w.heap.size w wr
  d : DX wr kv vc p q
  ol : wr.ownsRow B1 3 1 vc l.length (l.map U.nI)
  x : GX wr kh u
  o : OG wr B2 u ov
theorem MrS.later {w wr W' : World} {kv kh B1 B2 : Nat} {vc u : Value} {l : List Nat} {p q : Int} {ov : List Rg} (h : MrS w wr kv kh B1 B2 vc u l p q ov) (hb : Below wr.heap.size wr W') : MrS w W' kv kh B1 B2 vc u l p q ov :=
  ⟨h.b.trans (hb.mono h.b.size), h.d.below hb, own_below h.ol hb, h.x.below hb, h.o.later hb⟩
theorem DX.ne {W : World} {k B e s n : Nat} {u v : Value} {p q : Int} {xs : List Value} (h : DX W k v p q) (ho : W.ownsRow B e s u n xs) (he : e ≠ 30) {j : Nat} (hj : u.ownBlock = some j) : j ≠ k := fun q => by
  subst q
  obtain ⟨cs, hc⟩ := own_ty ho hj
  rw [h.heap] at hc
  injection hc with h4
  injection h4 with _ h5
  exact he h5.symm
/-- A rule is put behind the copy's. -/
theorem MrS.push {w wr wA w5 : World} {kv kh B1 B2 : Nat} {vc u u2 v2 : Value} {l : List Nat} {p q : Int} {ov : List Rg} {nm : ByteArray} {L : List Nd} (h : MrS w wr kv kh B1 B2 vc u l p q ov) (hB : w.heap.size ≤ B2) (hB2 : B2 ≤ wr.heap.size) (hkh : w.heap.size ≤ kh) (hkk : kh ≠ kv) (hA : Below wr.heap.size wr wA) (hl : wA.ownsRow wr.heap.size 50 7 v2 L.length (ndc L)) (hg : (wA.alloc (.cells #[.string nm, v2] 54)).grownBy w5 u.ownBlock) (ho : w5.ownsRow B2 54 2 u2 (ov.length + 1) (rgc ov ++ [.string nm, v2])) : GX w5 kh u ∧ MrS w (w5.setCell ⟨kh, 0, none⟩ u2) kv kh B1 B2 vc u2 l p q (ov ++ [((nm, L), v2)]) := by
  have h2 := (h.later hA).later (below_box wA (.cells #[.string nm, v2] 54))
  have o5 := h.o.push hB2 hA hl hg ho
  have x5 : GX w5 kh u := h2.x.same (hg.block _ h2.x.lt (fun e => h2.x.ne h2.o.o (by decide) e.symm rfl))
  have d5 : DX w5 kv vc p q := h2.d.same (hg.block _ h2.d.lt (fun e => h2.d.ne h2.o.o (by decide) e.symm rfl))
  have l5 : w5.ownsRow B1 3 1 vc l.length (l.map U.nI) := own_same h2.ol fun k hk => hg.block k (h2.ol.lt k hk).2 (fun q => own_apart h2.o.o h2.ol (by decide) q.symm hk)
  have b5 : Below w.heap.size w w5 := h2.b.grown hg h2.b.size (fun k e => Nat.le_trans hB (h2.o.o.lt k e).1)
  have key : ∀ (j : Nat), j ≠ kh → (w5.setCell ⟨kh, 0, none⟩ u2).heap[j]? = w5.heap[j]? := fun j hj => Below.heap_setCell _ _ _ _ hj
  exact ⟨x5, b5.setCell (p := ⟨kh, 0, none⟩) hkh _, d5.same (key _ hkk.symm), own_same l5 fun k hk => key k (x5.ne l5 (by decide) hk), x5.set _, o5.same fun k hk => key k (o5.ne x5 hk)⟩
theorem gx_new (W : World) (u : Value) : GX (W.alloc (.cells #[u] 24)) W.heap.size u := GX.mk (heap_alloc_new W _)

set_option maxRecDepth 100000 in
set_option maxHeartbeats 32000000 in
theorem more_law (gs : GL) (nm : ByteArray) (hnm : nm.size ≤ 140737488355328) (A : Option Addr) (c : Nat) (w : World) (hg : GrIn w A c gs) : Calls Tryz.prog 6 #[.agg #[.slice A gs.length c], .string nm] w fun e w' => e = .returned (.bool true) ∧ Below w.heap.size w w' := by
  have hl := hg.len
  obtain ⟨i0, hinf, hz0, hz1, hz2⟩ := info_parts Tryz.info41
  obtain ⟨w0, hw0⟩ : ∃ w0, w0 = w.alloc (.cells #[.slice A gs.length c] 24) := ⟨_, rfl⟩
  have HB0 := (show Hid (Below w.heap.size w w0) from by rw [hw0]; exact below_box w _)
  have HX0 := (show Hid (GX w0 w.heap.size (.slice A gs.length c)) from by rw [hw0]; exact gx_new w _)
  have HE0 := (show Hid (w.alloc (.cells #[.slice A gs.length c] 24) = w0) from hw0.symm)
  have HG0 := (show Hid (GrIn w0 A c gs) from hg.later HB0.out)
  have HLN := (show Hid (gs.length * 40 ≤ 140737488351232) from hl)
  have HNM := (show Hid (nm.size ≤ 140737488355328) from hnm)
  have HWk := (show Hid (∀ W, Calls Tryz.prog 10 #[] W fun e w' => e = .returned (.bool true) ∧ Below W.heap.size W w') from lives_any)
  have HA : Hid (∀ (ks : GL) (w' : World) (Ap : Option Addr) (cp : Nat), GI w' Ap ks → Calls Tryz.prog 8 #[.agg #[.slice Ap ks.length cp]] w' fun e w'' => (∃ (A1 : Option Addr) (c1 : Nat) (l : List Nat) (p q : Nat) (cd : Int), e = .returned (.tuple #[.agg #[.slice A1 l.length c1, .int .i64 (p : Int), .int .i64 (q : Int)], .int .i64 cd]) ∧ VdR ks l p q cd ∧ w''.ownsRow w'.heap.size 3 1 (.slice A1 l.length c1) l.length (l.map U.nI)) ∧ Below w'.heap.size w' w'') := fun ks w' Ap cp h => by
    refine (fcheck_any ks Ap cp w' h).mono ?_
    rintro e w'' ⟨⟨v, l, p, q, cd, rfl, hr, ho⟩, b⟩
    obtain ⟨A1, c1, rfl⟩ := own_slice ho
    exact ⟨⟨A1, c1, l, p, q, cd, rfl, hr, ho⟩, b⟩
  have x0 := HX0.out.cl
  clear hg hw0 hl hnm
  go_enter Tryz.func6, Tryz.ntmps6
  go_wp2_with (rw [HE0.out])
  refine (HA.out gs w0 _ _ HG0.out.gi).mono ?_
  rintro e w1 ⟨⟨A1, c1, l, p, q, cd, rfl, hr1, ho1⟩, b1⟩
  obtain ⟨w2, hw2⟩ : ∃ w2, w2 = w1.alloc (.cells #[.slice A1 l.length c1, .int .i64 (p : Int), .int .i64 (q : Int)] 30) := ⟨_, rfl⟩
  have HE2 := (show Hid (w1.alloc (.cells #[.slice A1 l.length c1, .int .i64 (p : Int), .int .i64 (q : Int)] 30) = w2) from hw2.symm)
  have hb2 : Below w1.heap.size w1 w2 := by rw [hw2]; exact below_box _ _
  have HB2 := (show Hid (Below w0.heap.size w0 w2) from b1.trans (hb2.mono b1.size))
  have HD2 := (show Hid (DX w2 w1.heap.size (.slice A1 l.length c1) (p : Int) (q : Int) ∧ w2.ownsRow w0.heap.size 3 1 (.slice A1 l.length c1) l.length (l.map U.nI) ∧ w1.heap.size < w2.heap.size ∧ w0.heap.size ≤ w1.heap.size) from ⟨by rw [hw2]; exact DX.new w1 _ _ _, own_below ho1 hb2, by rw [hw2, World.size_alloc]; omega, b1.size⟩)
  have HV1 := (show Hid (VdR gs l p q cd) from hr1)
  have x2 := (HX0.out.below HB2.out).cl
  have HCp := (show Hid (∀ _ : Unit, Calls Tryz.prog 20 #[.agg #[.slice A gs.length c]] w2 fun e w' => (∃ v ov, e = .returned (.agg #[v]) ∧ ov.map (·.1) = gs ∧ OG w' w2.heap.size v ov) ∧ Below w2.heap.size w2 w') from fun _ => copyG_any gs A c w2 (HG0.out.later HB2.out))
  clear hr1 ho1 b1 hb2 hw2 x0 HE0
  go_wp2_with (rw [HE2.out])
  refine (HCp.out ()).mono ?_
  rintro e w3 ⟨⟨v, ov, rfl, hm, hog⟩, b3⟩
  obtain ⟨w4, hw4⟩ : ∃ w4, w4 = w3.alloc (.cells #[v] 24) := ⟨_, rfl⟩
  have HE4 := (show Hid (w3.alloc (.cells #[v] 24) = w4) from hw4.symm)
  have hb4 : Below w3.heap.size w3 w4 := by rw [hw4]; exact below_box _ _
  have hb24 : Below w2.heap.size w2 w4 := b3.trans (hb4.mono b3.size)
  have hlov : ov.length = gs.length := by rw [← hm, List.length_map]
  have hO0 := hog.o
  obtain ⟨Av, cv, rfl⟩ := own_sl hO0
  have HM4 := (show Hid (MrS w w4 w1.heap.size w3.heap.size w0.heap.size w2.heap.size (.slice A1 l.length c1) (.slice Av ov.length cv) l (p : Int) (q : Int) ov) from ⟨(HB0.out.trans (HB2.out.mono HB0.out.size)).trans (hb24.mono (Nat.le_trans HB0.out.size HB2.out.size)), HD2.out.1.below hb24, own_below HD2.out.2.1 hb24, by rw [hw4]; exact gx_new w3 _, hog.later hb4⟩)
  have HSz := (show Hid (w.heap.size ≤ w2.heap.size ∧ w2.heap.size ≤ w4.heap.size ∧ w.heap.size ≤ w3.heap.size ∧ w3.heap.size ≠ w1.heap.size ∧ ov.length = gs.length ∧ ov.map (·.1) = gs) from by
    have q1 := HB0.out.size
    have q2 := HB2.out.size
    have q3 := b3.size
    have q4 := hb4.size
    have q5 := HD2.out.2.2.1
    exact ⟨by omega, by omega, by omega, by omega, hlov, hm⟩)
  have x4 := HM4.out.x.cl
  have xf := HM4.out.x.fz
  clear hw4 hb4 hb24 hlov hm hog hO0 b3 HCp HE2 x2
  obtain ⟨wA, hwA⟩ : ∃ wA, wA = w4.alloc (.cells #[.int .i64 3, .int .i64 0, .string ⟨#[]⟩, .int .u64 0, .int .u64 0, .int .u64 0, .int .u64 0] 50) := ⟨_, rfl⟩
  have HEA := (show Hid (w4.alloc (.cells #[.int .i64 3, .int .i64 0, .string ⟨#[]⟩, .int .u64 0, .int .u64 0, .int .u64 0, .int .u64 0] 50) = wA) from hwA.symm)
  have HSA := (show Hid (wA.heap.size = w4.heap.size + 1 ∧ Below w4.heap.size w4 wA) from by rw [hwA]; exact ⟨World.size_alloc _ _, below_box _ _⟩)
  have HRA := (show Hid (wA.ownsRow w4.heap.size 50 7 (.slice (some ⟨w4.heap.size, 0, none⟩) 1 1) [lvA].length (ndc [lvA])) from by
    rw [hwA]
    exact World.ownsRow_lit w4 _ 1 (Nat.le_refl _) (by unfold maxLen; omega) rfl)
  have hOA := ((HM4.out.later HSA.out.2).o.o).alloc (.cells #[.string nm, .slice (some ⟨w4.heap.size, 0, none⟩) 1 1] 54)
  have HPu := (show Hid (∀ (w5 : World) (u2 : Value), (wA.alloc (.cells #[.string nm, .slice (some ⟨w4.heap.size, 0, none⟩) 1 1] 54)).grownBy w5 (Value.slice Av ov.length cv).ownBlock → w5.ownsRow w2.heap.size 54 2 u2 (ov.length + 1) (rgc ov ++ [.string nm, .slice (some ⟨w4.heap.size, 0, none⟩) 1 1]) → GX w5 w3.heap.size (.slice Av ov.length cv) ∧ MrS w (w5.setCell ⟨w3.heap.size, 0, none⟩ u2) w1.heap.size w3.heap.size w0.heap.size w2.heap.size (.slice A1 l.length c1) u2 l (p : Int) (q : Int) (ov ++ [((nm, [lvA]), .slice (some ⟨w4.heap.size, 0, none⟩) 1 1)])) from fun w5 u2 hg ho => HM4.out.push (L := [lvA]) HSz.out.1 HSz.out.2.1 HSz.out.2.2.1 HSz.out.2.2.2.1 HSA.out.2 HRA.out hg ho)
  have hovl : ov.length * 40 ≤ 140737488351232 := by have h1 := HLN.out; have h2 := HSz.out.2.2.2.2.1; omega
  go_wp2_with (first
    | rw [HE4.out]
    | rw [HEA.out]
    | (at_builtin; refine wpList_append_lies _ rfl _ _ 22 rfl w2.heap.size 54 i0 (.agg #[.string ⟨#[]⟩, .slice none 0 0]) 2 40 Tryz.underlying22 hinf hz0 hz1 hz2 rfl (by decide) _ _ _ rfl hOA ⟨w4.heap.size + 1, 0, none⟩ 1 1 [.string nm, .slice (some ⟨w4.heap.size, 0, none⟩) 1 1] rfl rfl ?c1 ?c2 (by decide) ?c3 ?c4 ?c5 (wA.heap.size + 1) (by simp) ?_))
  case c1 =>
    have h := heap_alloc_new wA (.cells #[.string nm, .slice (some ⟨w4.heap.size, 0, none⟩) 1 1] 54)
    rw [HSA.out.1] at h
    exact World.news_of_block (cs := #[.string nm, .slice (some ⟨w4.heap.size, 0, none⟩) 1 1]) (t := 54) (fr := (0, 0)) h
  case c2 => intro u hu; simp only [List.mem_cons, List.not_mem_nil, or_false] at hu; rcases hu with rfl | rfl <;> rfl
  case c3 => unfold maxLen; omega
  case c4 => omega
  case c5 => rw [World.size_alloc]; have h1 := HSz.out.2.1; have h2 := HSA.out.1; omega
  intro g3 cap3 w5 hown hgrow hat hltg
  obtain ⟨hz5, hpu⟩ := HPu.out w5 (.slice (some ⟨g3, 0, none⟩) (ov.length + 1) cap3) hgrow hown
  obtain ⟨w6, hw6⟩ : ∃ w6, w6 = w5.setCell ⟨w3.heap.size, 0, none⟩ (.slice (some ⟨g3, 0, none⟩) (ov.length + 1) cap3) := ⟨_, rfl⟩
  have HE6 := (show Hid (w5.setCell ⟨w3.heap.size, 0, none⟩ (.slice (some ⟨g3, 0, none⟩) (ov.length + 1) cap3) = w6) from hw6.symm)
  rw [← hw6] at hpu
  have HM6 := (show Hid (MrS w w6 w1.heap.size w3.heap.size w0.heap.size w2.heap.size (.slice A1 l.length c1) (.slice (some ⟨g3, 0, none⟩) (ov.length + 1) cap3) l (p : Int) (q : Int) (ov ++ [((nm, [lvA]), .slice (some ⟨w4.heap.size, 0, none⟩) 1 1)])) from hpu)
  have z5f := hz5.fz
  have z5c := hz5.cl
  have x6 := HM6.out.x.cl
  have HGs := (show Hid ((gsM gs nm lvA).length = ov.length + 1) from (gsM_len gs nm lvA).trans (by rw [HSz.out.2.2.2.2.1]))
  have HGI := (show Hid (GI w6 (some ⟨g3, 0, none⟩) (gsM gs nm lvA)) from by
    have hmm : (ov ++ [((nm, [lvA]), Value.slice (some ⟨w4.heap.size, 0, none⟩) 1 1)]).map (·.1) = gsM gs nm lvA := by
      rw [List.map_append, HSz.out.2.2.2.2.2]
      rfl
    obtain ⟨A9, c9, e9, h9⟩ := HM6.out.o.rd hmm
    have e9 : A9 = some ⟨g3, 0, none⟩ := by injection e9 with e1; exact e1.symm
    subst e9
    refine ⟨h9, by rw [HGs.out]; have h1 := HLN.out; have h2 := HSz.out.2.2.2.2.1; omega, fun g hg => ?_⟩
    rcases List.mem_append.1 hg with q | q
    · exact HG0.out.gi.t g q
    · rw [List.mem_singleton.1 q]
      refine ⟨HNM.out, by show 1 ≤ _; omega, fun m hm => ?_⟩
      rw [List.mem_singleton.1 hm]
      show (0 : Nat) ≤ _
      omega)
  have HCk := (show Hid (∀ _ : Unit, Calls Tryz.prog 21 #[.agg #[.slice (some ⟨g3, 0, none⟩) (ov.length + 1) cap3]] w6 fun e w' => e = .returned (.tuple #[.agg #[.int .i64 (ckG (gsM gs nm lvA)).1.1, .int .i64 (ckG (gsM gs nm lvA)).1.2], .int .i64 (ckG (gsM gs nm lvA)).2]) ∧ Below w6.heap.size w6 w') from fun _ => by
    have h := checkD_any (gsM gs nm lvA) (some ⟨g3, 0, none⟩) cap3 w6 HGI.out
    rw [HGs.out] at h
    exact h)
  have HCf := (show Hid (∀ W, Below w6.heap.size w6 W → Calls Tryz.prog 8 #[.agg #[.slice (some ⟨g3, 0, none⟩) (ov.length + 1) cap3]] W fun e w' => (∃ (A1 : Option Addr) (c1 : Nat) (l : List Nat) (p q : Nat) (cd : Int), e = .returned (.tuple #[.agg #[.slice A1 l.length c1, .int .i64 (p : Int), .int .i64 (q : Int)], .int .i64 cd]) ∧ VdR (gsM gs nm lvA) l p q cd ∧ w'.ownsRow W.heap.size 3 1 (.slice A1 l.length c1) l.length (l.map U.nI)) ∧ Below W.heap.size W w') from fun W hW => by
    have h := HA.out (gsM gs nm lvA) W (some ⟨g3, 0, none⟩) cap3 (HGI.out.later hW)
    rw [HGs.out] at h
    exact h)
  clear hown hgrow hat hltg hz5 hpu hw6 HPu hOA HRA HA HEA HE4 HM4 hwA HSA x4 xf hovl HGI HGs HG0 HLN HNM
  generalize w3.heap.size = k3 at *
  generalize w1.heap.size = k1 at *
  go_wp2_with (rw [HE6.out])
  refine (HCk.out ()).mono ?_
  rintro e w7 ⟨rfl, b7⟩
  obtain ⟨w8, hw8⟩ : ∃ w8, w8 = w7.alloc (.cells #[.int .i64 (ckG (gsM gs nm lvA)).1.1, .int .i64 (ckG (gsM gs nm lvA)).1.2] 28) := ⟨_, rfl⟩
  have HE8 := (show Hid (w7.alloc (.cells #[.int .i64 (ckG (gsM gs nm lvA)).1.1, .int .i64 (ckG (gsM gs nm lvA)).1.2] 28) = w8) from hw8.symm)
  have HB8 := (show Hid (Below w6.heap.size w6 w8) from by rw [hw8]; exact b7.trans ((below_box _ _).mono b7.size))
  have HM8 := (show Hid (MrS w w8 k1 k3 w0.heap.size w2.heap.size (.slice A1 l.length c1) (.slice (some ⟨g3, 0, none⟩) (ov.length + 1) cap3) l (p : Int) (q : Int) (ov ++ [((nm, [lvA]), .slice (some ⟨w4.heap.size, 0, none⟩) 1 1)])) from HM6.out.later HB8.out)
  have x8 := HM8.out.x.cl
  clear hw8 b7 HE6 HCk x6 z5f z5c HM6
  by_cases hz : (ckG (gsM gs nm lvA)).2 = 0
  · have hR2 := ckG_ok.1 hz
    have tz : ((ckG (gsM gs nm lvA)).2 != 0) = false := by rw [hz]; rfl
    have HV := (show Hid (∀ (l2 : List Nat) (p2 q2 : Nat) (cd2 : Int), VdR (gsM gs nm lvA) l2 p2 q2 cd2 → ((cd = 3 ∨ cd = 81) ∧ (cd2 = 0 ∨ cd2 = 100 ∨ cd2 = 101)) ∨ (l2 = l ∧ p2 = p ∧ q2 = q ∧ cd2 = cd)) from fun l2 p2 q2 cd2 h => vd_more rfl hR2 HV1.out h)
    have HLl := (show Hid (l.length ≤ 1000000) from by
      obtain ⟨_, _, h⟩ := vd_doc HV1.out
      exact Nat.le_trans (vd_len h) (by omega))
    clear hR2 HV1
    go_wp2_with (rw [HE8.out])
    refine (HCf.out w8 HB8.out).mono ?_
    rintro e w9 ⟨⟨A2, c2, l2, p2, q2, cd2, rfl, hv2, ho2⟩, b9⟩
    obtain ⟨w10, hw10⟩ : ∃ w10, w10 = w9.alloc (.cells #[.slice A2 l2.length c2, .int .i64 (p2 : Int), .int .i64 (q2 : Int)] 30) := ⟨_, rfl⟩
    have HE10 := (show Hid (w9.alloc (.cells #[.slice A2 l2.length c2, .int .i64 (p2 : Int), .int .i64 (q2 : Int)] 30) = w10) from hw10.symm)
    have hb10 : Below w9.heap.size w9 w10 := by rw [hw10]; exact below_box _ _
    have HM10 := (show Hid (MrS w w10 k1 k3 w0.heap.size w2.heap.size (.slice A1 l.length c1) (.slice (some ⟨g3, 0, none⟩) (ov.length + 1) cap3) l (p : Int) (q : Int) (ov ++ [((nm, [lvA]), .slice (some ⟨w4.heap.size, 0, none⟩) 1 1)]) ∧ DX w10 w9.heap.size (.slice A2 l2.length c2) (p2 : Int) (q2 : Int) ∧ w10.ownsRow w8.heap.size 3 1 (.slice A2 l2.length c2) l2.length (l2.map U.nI)) from ⟨HM8.out.later (b9.trans (hb10.mono b9.size)), by rw [hw10]; exact DX.new w9 _ _ _, own_below ho2 hb10⟩)
    have hvv := HV.out l2 p2 q2 cd2 hv2
    clear hv2 ho2 b9 hw10 hb10 HE8 HCf HV HM8 HB8 x8
    rcases hvv with ⟨h3, h0⟩ | ⟨rfl, rfl, rfl, rfl⟩
    · have t1 : (cd != cd2) = true := by
        rw [bne_iff_ne]
        rcases h3 with rfl | rfl <;> rcases h0 with rfl | rfl | rfl <;> decide
      have t2 : (cd != 0) = true := by rw [bne_iff_ne]; rcases h3 with rfl | rfl <;> decide
      have t3 : (cd != 100) = true := by rw [bne_iff_ne]; rcases h3 with rfl | rfl <;> decide
      have t4 : (cd != 101) = true := by rw [bne_iff_ne]; rcases h3 with rfl | rfl <;> decide
      clear h3 h0
      go_wp2_with (rw [HE10.out])
      refine (HWk.out _).mono ?_
      rintro e w11 ⟨rfl, b11⟩
      have HF := (show Hid (Below w.heap.size w w11) from HM10.out.1.b.trans (b11.mono HM10.out.1.b.size))
      clear b11 HE10
      go_wp2_with fail
      go_ret
      exact ⟨rfl, HF.out⟩
    · have t1 : (cd2 != cd2) = false := by rw [bne_self_eq_false]
      have d0 := HM10.out.1.d.c0
      have d1 := HM10.out.1.d.c1
      have d2 := HM10.out.1.d.c2
      have e0 := HM10.out.2.1.c0
      have e1 := HM10.out.2.1.c1
      have e2 := HM10.out.2.1.c2
      have hse := sp_eq p2 q2
      have HSa := (show Hid (∀ _ : Unit, Calls Tryz.prog 11 #[.slice A1 l2.length c1, .slice A2 l2.length c2] w10 fun e w' => e = .returned (.bool true) ∧ Below w10.heap.size w10 w') from fun _ => SameInts_any l2 HLl.out w10 HM10.out.1.ol HM10.out.2.2)
      go_wp2_with (rw [HE10.out])
      refine (HSa.out ()).mono ?_
      rintro e w11 ⟨rfl, b11⟩
      have HB11 := (show Hid (Below w.heap.size w w11) from HM10.out.1.b.trans (b11.mono HM10.out.1.b.size))
      clear b11 HE10 HSa HM10 d0 d1 d2 e0 e1 e2 hse
      go_wp2_with fail
      refine (HWk.out _).mono ?_
      rintro e w12 ⟨rfl, b12⟩
      have HF := (show Hid (Below w.heap.size w w12) from HB11.out.trans (b12.mono HB11.out.size))
      clear b12 HB11
      go_wp2_with fail
      go_ret
      exact ⟨rfl, HF.out⟩
  · have tz : ((ckG (gsM gs nm lvA)).2 != 0) = true := by rw [bne_iff_ne]; exact hz
    clear hz HCf
    go_wp2_with (rw [HE8.out])
    refine (HWk.out _).mono ?_
    rintro e w9 ⟨rfl, b9⟩
    have HF := (show Hid (Below w.heap.size w w9) from HM8.out.b.trans (b9.mono HM8.out.b.size))
    clear b9 HE8
    go_wp2_with fail
    go_ret
    exact ⟨rfl, HF.out⟩
end Go.Proofs.YtbipjdgholdhcaaGreat.N

namespace Go.Proofs.YtbipjdgholdhcaaGreat
open Go.ChangeShapes Go.WideShapes Go.ChangeAt Go.RowKit
open Go.ChangeMaps (open_string shut_string)
set_option maxRecDepth 100000 in
theorem fordMore_lifted (os : Os) (started : os.Started) (H : Type) (enc : TypeId × Value → H) :
    ReturnsInHanded {} Tryz.checked os 6 .any (Rows.fordMoreSpec.pre6 enc Tryz.prog Tryz.f6 Rows.fordMoreRow.domain false) (Rows.fordMoreSpec.post enc Tryz.prog Tryz.f6 false true false false) := by
  refine returnsInHanded_of_change_sized (C := Tryz.checked) T.own started (by kernel_rfl) Tryz.func6
    (ChangeSpec.witness6 (enc := enc) (C := Tryz.checked) false ⟨#[], #[.agg #[.slice none 0 0], .string ByteArray.empty], []⟩ 8 (by kernel_rfl) (by kernel_rfl) (by kernel_rfl) (by kernel_rfl)) ?_
  intro W base args ds gs before hval0 hW hcnd hsz _
  have hval : ∀ (j : Nat) t v, Tryz.f6.params[j]? = some t → args[j]? = some v → Value.okWide Tryz.prog W .any base t v := hval0
  have hW' := hW
  obtain ⟨p, q, hA0, hV, rfl, hfz, hnd⟩ := hW
  have hA : DataW.TrodAll enc Tryz.prog W 0 (fun _ => true) true Tryz.f6.params.toList args.toList ds p := hA0
  rw [Tryz.params6] at hA hval
  have hsz : (DataW.weightsEach Tryz.prog (#[24, 9].toList ++ Rows.fordMoreSpec.plain.varTypes Tryz.prog) (ds ++ gs)).all (· ≤ reachBytes) = true := hsz
  obtain ⟨v0, v1, d0, d1, p0, p1, rfl, rfl, rfl, h0, h1⟩ := trodAll_two hA
  obtain ⟨rfl, rfl⟩ := trodVars_none hV
  have lt0 : ∀ x ∈ p0, x.block < W.heap.size := by obtain ⟨m, hm⟩ := h0; exact DataW.trod_lt m _ _ _ hm
  obtain ⟨A0, c0, L0, rfl, r0⟩ := N.open_gram h0 (hval 0 24 v0 rfl rfl) (T.sized_at hsz (j := 0) rfl rfl)
  have sz1 := T.sized_at hsz (j := 1) rfl rfl
  obtain ⟨s1, rfl, rfl, rfl, hs1⟩ := open_string Tryz.underlying9 (hval 1 9 v1 rfl rfl) h1
  have hb1 : s1.size ≤ 140737488355328 := by
    have hr : reachBytes = 140737488351232 := by decide
    have h := sz1 s1.size (by simp only [DataW.weights, List.mem_singleton]; rw [Array.length_toList]; rfl)
    rw [hr] at h
    omega
  clear hA0 hval0
  refine (N.more_law L0 s1 hb1 A0 c0 W r0).mono fun e W' ⟨he, bel⟩ => ?_
  subst he
  exact ⟨_, rfl, _, _, _, [], _, [], hW', trodAll_mk1 (shut_bool Tryz.underlying4 _), (trodAll_cons_mk (Below.trod T.laidOut (by kernel_rfl) (of_decide_eq_true (by kernel_rfl)) h0 bel lt0) (trodAll_cons_mk (shut_string Tryz.underlying9 hs1) trodAll_mk0)), rfl, bel.frame _, fun h => by cases h⟩

theorem fordMore_holds : Rows.FordMoreSaid :=
  OpenClaim.holds_of_wide 6 Tryz.f6 rfl rfl rfl rfl rfl rfl rfl ⟨rfl, rfl, rfl, rfl, rfl⟩ rfl rfl rfl rfl rfl (by kernel_rfl) Tryz.func6 (by kernel_rfl)
    (of_decide_eq_true (by kernel_rfl)) (by unfold Func.isWrapper; first | (rw [if_pos (by decide +kernel)]; kernel_rfl) | (rw [if_neg (by decide +kernel)]; exact ⟨rfl, rfl⟩))
    (fun os started H enc _ => fordMore_lifted os started H enc)
end Go.Proofs.YtbipjdgholdhcaaGreat
