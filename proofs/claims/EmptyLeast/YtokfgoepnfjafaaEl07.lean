/- DERIVED. Plain mathematics and walks, laid together (7). -/
import Derived.BigQuiet
import Derived.Deep.RegionLaw
import Derived.Shelf.Sort.AssemblyIn
import Derived.Sort.EveryDepth
import Derived.Test.YtokfgoepnfjafaaProg
import Derived.Shelf.Slices.In.SortNone
import Derived.Sort.OwnSortedInts
import Derived.Maps.Range
import Derived.Maps.Views
import Derived.Sort.KeysCollected
import Derived.Laws.OwnMore
import Derived.Test.YtokfgoepnfjafaaEl06
namespace Go.Proofs.Ytokfgoepnfjafaa.N
open Go.RowKit Go.Maps
open Go.Proofs.Ytokfgoepnfjafaa.T
theorem RdE.same {W W' : World} {A : Option Addr} {l : List Em} (h : RdE W A l) (hz : W.heap.size ≤ W'.heap.size) (hb : ∀ g o, A = some ⟨g, o, none⟩ → W'.heap[g]? = W.heap[g]?) : RdE W' A l := fun hl => by
  obtain ⟨g, o, e, lt, c⟩ := h hl
  exact ⟨g, o, e, Nat.lt_of_lt_of_le lt hz, fun j x hx => (c j x hx).same (hb g o e)⟩
theorem KnI.same {W W' : World} {gs : GL} {B : Nat} {A : Option Addr} {now : List Em} (h : KnI W gs B A now) (hz : W.heap.size ≤ W'.heap.size) (hB : W'.heap[B]? = W.heap[B]?) (hb : ∀ g o, A = some ⟨g, o, none⟩ → W'.heap[g]? = W.heap[g]?) : KnI W' gs B A now := ⟨h.m.same hB, h.r.same hz hb, h.n⟩
/-- A right pattern that calls rules of the grammar alone. -/
structure PtR (gs : GL) (now : List Em) (L : List Nd) : Prop where
  rt : Rt L
  sz : ∀ n ∈ L, n.tx.size ≤ 140737488355328
  fd : ∀ n ∈ L, n.op = 6 → ∃ i, fdG gs n.tx = some i
  ok : OkN gs now
theorem PtR.al {gs : GL} {now : List Em} {L : List Nd} (h : PtR gs now L) : ∀ n ∈ L, alE n = 0 := fun n hn => by
  obtain ⟨k, hk⟩ := List.getElem?_of_mem hn
  exact (er_ok hk (h.rt.each k (List.getElem?_eq_some_iff.1 hk).1)).al
theorem PtR.lk {gs : GL} {now : List Em} {L : List Nd} (h : PtR gs now L) : ∀ n ∈ L, n.op = 6 → OkE (lkE gs now n.tx) := fun n hn h6 => by
  obtain ⟨k, hk⟩ := h.fd n hn h6
  have hlt := fdG_lt hk
  have hl := h.ok.n
  have e : now[k]? = some now[k] := List.getElem?_eq_getElem (by omega)
  unfold lkE
  rw [hk]
  show OkE ((now[k]?).getD e0)
  rw [e]
  exact h.ok.o _ (List.mem_of_getElem? e)
theorem PtR.ee {gs : GL} {now : List Em} {L : List Nd} (h : PtR gs now L) {j : Nat} (hj : j < L.length) : OkE (EE (lkE gs now) L j) :=
  emL_ok (kds_R h.rt) h.al h.lk L.length (Nat.le_refl _) _ (List.mem_of_getElem? (EE_at (Nat.le_refl _) hj))
theorem PtR.kids {gs : GL} {now : List Em} {L : List Nd} (h : PtR gs now L) {k : Nat} {n : Nd} (hn : L[k]? = some n) : ∀ e ∈ emS (EE (lkE gs now) L) ((run L k).take (arN n.op)), OkE e := fun e he => by
  have hlt := (List.getElem?_eq_some_iff.1 hn).1
  rw [kdR_of hn] at he
  obtain ⟨j, hj, rfl⟩ := List.mem_map.1 he
  have := (kds_R h.rt).lt k j hlt hj
  exact h.ee (by omega)
theorem PtR.klen {gs : GL} {now : List Em} {L : List Nd} (h : PtR gs now L) {k : Nat} {n : Nd} (hn : L[k]? = some n) : (emS (EE (lkE gs now) L) ((run L k).take (arN n.op))).length = arN n.op := by
  have hlt := (List.getElem?_eq_some_iff.1 hn).1
  have ho := (er_ok hn (h.rt.each k hlt)).ar
  rw [emS_len, List.length_take]
  omega
theorem PtR.node {gs : GL} {now : List Em} {L : List Nd} (h : PtR gs now L) {k : Nat} {n : Nd} (hn : L[k]? = some n) (B : Nat) (Ar A : Option Addr) (cr c : Nat) (w : World) (hk : KnI w gs B Ar now) (hp : RdE w A (emS (EE (lkE gs now) L) ((run L k).take (arN n.op)))) : Calls Try.prog 18 #[.agg #[.map (some B), .slice Ar now.length cr], ndG n, .slice A (arN n.op) c] w fun e w' => e = .returned (emG (EE (lkE gs now) L k)) ∧ Below w.heap.size w w' := by
  have hm := List.mem_of_getElem? hn
  rw [EE_step h.rt hn]
  exact node_any n B Ar A cr c _ (h.al n hm) (h.sz n hm) (h.fd n hm) (h.klen hn) (h.kids hn) w hk hp
def JK (gs : GL) (now : List Em) (Bm : Nat) (Ar : Option Addr) (Bk : Nat) (_k : Nat) (X : Nat → Prop) (w : World) : Prop := (∀ b, ¬ X b) ∧ KnI w gs Bm Ar now ∧ Bm < Bk ∧ ∀ g o, Ar = some ⟨g, o, none⟩ → g < Bk
theorem see_of {gs : GL} {now : List Em} {L : List Nd} (h : PtR gs now L) (Bm : Nat) (Ar : Option Addr) (cr Bc Bk : Nat) : See9 L 18 #[.agg #[.map (some Bm), .slice Ar now.length cr]] #[] (EE (lkE gs now) L) Bc Bk (JK gs now Bm Ar Bk) where
  kept := fun k X w w' hj hz hb => ⟨hj.1, hj.2.1.same hz (hb _ (.inl hj.2.2.1)) (fun g o e => hb _ (.inl (hj.2.2.2 g o e))), hj.2.2⟩
  far := fun k X w hj b hb => absurd hb (hj.1 b)
  call := fun k X w A c n hj hB hn hp _ => by
    refine (h.node hn Bm Ar A cr c w hj.2.1 hp).mono ?_
    rintro e w' ⟨rfl, hb⟩
    exact ⟨rfl, X, ⟨hj.1, hj.2.1.later hb, hj.2.2⟩, kp_of_below hb, fun b q => .inl q⟩
structure O2 (w W : World) (m s : Value) : Prop where
  b : Below w.heap.size w W
  k : KX W w.heap.size m s
  z : EX W (w.heap.size + 1) e0
theorem O2.start (w : World) (m s : Value) : O2 w ((w.alloc (.cells #[m, s] 47)).alloc (emO e0)) m s := by
  have s1 := World.size_alloc w (.cells #[m, s] 47)
  refine ⟨((Below.refl _ _).alloc (Nat.le_refl _) _).alloc (by omega) _, (KX.new w m s).below (below_box _ _), ?_⟩
  have h := EX.new (w.alloc (.cells #[m, s] 47)) e0; rw [s1] at h; exact h
theorem O2.later {w W W' : World} {m s : Value} (h : O2 w W m s) (hb : Below W.heap.size W W') : O2 w W' m s := ⟨h.b.trans (hb.mono h.b.size), h.k.below hb, h.z.below hb⟩
theorem O2.ret {w W : World} {m s : Value} (h : O2 w W m s) (f : Em) : EX (st4 W (w.heap.size + 1) f) (w.heap.size + 1) f ∧ Below w.heap.size w (st4 W (w.heap.size + 1) f) := ⟨h.z.all f, st4_below h.b (by omega) f⟩
theorem rde_lt {W : World} {A : Option Addr} {l : List Em} (h : RdE W A l) (hl : l ≠ []) : ∀ g o, A = some ⟨g, o, none⟩ → g < W.heap.size := fun g o e => by
  obtain ⟨g2, o2, e2, lt, _⟩ := h hl
  rw [e] at e2
  obtain ⟨rfl, _⟩ := Addr.mk.inj (Option.some.inj e2)
  exact lt
theorem enters_node (args : Array Value) (w : World) : (callFunc 18 args).run Try.prog w = .ok (.enter 18 args) w := enters_of Try.func18 (by kernel_rfl) rfl args w
theorem through_of {gs : GL} {now : List Em} {L : List Nd} (h : PtR gs now L) (B : Nat) (Ar Ap : Option Addr) (cr cp : Nat) (w : World) (hk : KnI w gs B Ar now) (hn : now ≠ []) (hL : RdN w Ap L) : Calls Try.prog 16 #[.slice Ap L.length cp, .func (.func 18) #[.agg #[.map (some B), .slice Ar now.length cr]] #[]] w fun e w' => e = .returned (emG (EE (lkE gs now) L (L.length - 1))) ∧ Below w.heap.size w w' := by
  refine (through9_any L 18 _ _ _ _ Ap cp w.heap.size h.rt w (Nat.le_refl _) hL ?_ enters_node (see_of h B Ar cr _ _) (fun _ => False) ⟨fun _ q => q, hk, hk.m.lt, rde_lt hk.r hn⟩ (fun _ q => q.elim)).mono ?_
  · rintro a rfl
    have hne : L ≠ [] := by rintro rfl; have := h.rt.one; simp [run] at this
    obtain ⟨g, o, e, lt, _⟩ := hL hne
    obtain rfl := Option.some.inj e
    exact lt
  · rintro e w' ⟨rfl, hb, _⟩
    exact ⟨rfl, hb⟩
set_option maxRecDepth 100000 in
set_option maxHeartbeats 8000000 in
/-- What is known of a pattern. -/
theorem of_any {gs : GL} {now : List Em} {L : List Nd} (h : PtR gs now L) (B : Nat) (Ar Ap : Option Addr) (cr cp : Nat) (w : World) (hk : KnI w gs B Ar now) (hn : now ≠ []) (hL : RdN w Ap L) : Calls Try.prog 11 #[.agg #[.map (some B), .slice Ar now.length cr], .slice Ap L.length cp] w fun e w' => e = .returned (emG (EE (lkE gs now) L (L.length - 1))) ∧ Below w.heap.size w w' := by
  have HA := (show Hid (O2 w ((w.alloc (.cells #[.map (some B), .slice Ar now.length cr] 47)).alloc (.cells #[.bool false, .bool false, .int .i64 0, .int .i64 0] 32)) (.map (some B)) (.slice Ar now.length cr)) from O2.start w _ _)
  obtain ⟨w1, hw1⟩ : ∃ w1, w1 = (w.alloc (.cells #[.map (some B), .slice Ar now.length cr] 47)).alloc (.cells #[.bool false, .bool false, .int .i64 0, .int .i64 0] 32) := ⟨_, rfl⟩
  have HE1 := (show Hid ((w.alloc (.cells #[.map (some B), .slice Ar now.length cr] 47)).alloc (.cells #[.bool false, .bool false, .int .i64 0, .int .i64 0] 32) = w1) from hw1.symm)
  rw [← hw1] at HA
  have q0 := HA.out.k.c0
  have q1 := HA.out.k.c1
  obtain ⟨⟨en, ec, el, em⟩, hE⟩ : ∃ e, e = EE (lkE gs now) L (L.length - 1) := ⟨_, rfl⟩
  have HT := (show Hid (Calls Try.prog 16 #[.slice Ap L.length cp, .func (.func 18) #[.agg #[.map (some B), .slice Ar now.length cr]] #[]] w1 fun e w' => e = .returned (.agg #[.bool en, .bool ec, .int .i64 el, .int .i64 em]) ∧ Below w1.heap.size w1 w') from by
    have t := through_of h B Ar Ap cr cp w1 (hk.later HA.out.b) hn (hL.below HA.out.b (Nat.le_refl _))
    rw [← hE] at t
    exact t)
  have HEE := (show Hid _ from hE)
  rw [← hE]
  clear hw1 h hk hn hL hE
  go_enter Try.func11, Try.ntmps11
  go_wp2_with (rw [HE1.out])
  refine HT.out.mono ?_
  rintro e w2 ⟨rfl, b2⟩
  have HA2 := (show Hid (O2 w w2 _ _) from HA.out.later b2)
  have f0 := HA2.out.z.fz 0
  have f1 := HA2.out.z.fz 1
  have f2 := HA2.out.z.fz 2
  have f3 := HA2.out.z.fz 3
  have z0 : w2.cell? ⟨w.heap.size + 1, 0, none⟩ = some (.bool false) := HA2.out.z.eb.c0
  have z1 : w2.cell? ⟨w.heap.size + 1, 1, none⟩ = some (.bool false) := HA2.out.z.eb.c1
  have z2 : w2.cell? ⟨w.heap.size + 1, 2, none⟩ = some (.int .i64 0) := HA2.out.z.eb.c2
  have z3 : w2.cell? ⟨w.heap.size + 1, 3, none⟩ = some (.int .i64 0) := HA2.out.z.eb.c3
  have HZ := (show Hid _ from HA2.out.ret ⟨en, ec, el, em⟩)
  clear HA HA2 b2 HT q0 q1
  go_wp2_with fail
  refine ret_ex (s := 4) (k := w.heap.size + 1) (by rfl) (by rfl) (by rfl) HZ.out.1 ?_
  exact ⟨rfl, HZ.out.2⟩
end Go.Proofs.Ytokfgoepnfjafaa.N

namespace Go.Proofs.Ytokfgoepnfjafaa.N
open Go.RowKit Go.Maps
open Go.Proofs.Ytokfgoepnfjafaa.T
def eqB (a b : Em) : Bool := (a.nu == b.nu) && ((a.cf == b.cf) && ((a.le == b.le) && (a.mo == b.mo)))
theorem eqB_iff {a b : Em} : eqB a b = true ↔ a = b := by
  obtain ⟨a1, a2, a3, a4⟩ := a
  obtain ⟨b1, b2, b3, b4⟩ := b
  unfold eqB
  simp only [Bool.and_eq_true, beq_iff_eq, Em.mk.injEq]
set_option maxRecDepth 100000 in
set_option maxHeartbeats 4000000 in
theorem em_neq (a b : Em) (W : World) : (binOp .neq 32 (emG a) (emG b)).run Try.prog W = .ok (.bool (!eqB a b)) W := by
  have hp : Try.prog.stoodInHeld 32 = false := by kernel_rfl
  obtain ⟨a1, a2, a3, a4⟩ := a
  obtain ⟨b1, b2, b3, b4⟩ := b
  unfold eqB
  cases hc : (a3 == b3)
  · cases a1 <;> cases b1 <;> cases a2 <;> cases b2 <;> simp [go_sem, Try.underlying32, Try.underlying3, Try.underlying4, Try.isAgg3, Try.isAgg4, hp, hc]
  cases hd : (a4 == b4)
  · cases a1 <;> cases b1 <;> cases a2 <;> cases b2 <;> simp [go_sem, Try.underlying32, Try.underlying3, Try.underlying4, Try.isAgg3, Try.isAgg4, hp, hc, hd]
  cases a1 <;> cases b1 <;> cases a2 <;> cases b2 <;> simp [go_sem, Try.underlying32, Try.underlying3, Try.underlying4, Try.isAgg3, Try.isAgg4, hp, hc, hd]
set_option maxRecDepth 100000 in
set_option maxHeartbeats 8000000 in
theorem equalE_any (l1 l2 : List Em) (A1 A2 : Option Addr) (c1 c2 : Nat) (hl : l1.length ≤ 140737488355328) (he : l2.length = l1.length) (w : World) (h1 : RdE w A1 l1) (h2 : RdE w A2 l2) :
    Calls Try.prog 15 #[.slice A1 l1.length c1, .slice A2 l2.length c2] w fun e w' => (∃ b, e = .returned (.bool b) ∧ (b = true ↔ l1 = l2)) ∧ ∃ m, w' = w.drewN m := by
  have H1 := (show Hid _ from h1)
  have H2 := (show Hid _ from h2)
  have HG := (show Hid (∀ k, k < l1.length → ∃ a b, l1[k]? = some a ∧ l2[k]? = some b ∧ l1 ≠ [] ∧ l2 ≠ []) from fun k hk => ⟨_, _, List.getElem?_eq_getElem hk, List.getElem?_eq_getElem (by omega), by rintro rfl; simp at hk, fun e => by rw [e] at he; have h : (0 : Nat) = l1.length := he; omega⟩)
  have HL := (show Hid (l2.length = l1.length) from he)
  rw [he]
  clear h1 h2 he
  go_enter Try.func15, Try.ntmps15
  go_wp2_with fail
  go_loopw [13] (fun t wr => ∃ k : Nat, k ≤ l1.length ∧ t = .int .i64 k ∧ Hid ((∃ m, wr = w.drewN m) ∧ l1.take k = l2.take k)) (fun t _ => l1.length - (intOf t).toNat)
  case atStart => exact ⟨0, by omega, by go_num, ⟨0, rfl⟩, by rw [List.take_zero, List.take_zero]⟩
  case round =>
    obtain ⟨k, hk, rfl, HW⟩ := hrel
    by_cases hlt : k < l1.length
    · obtain ⟨a, b, hn1, hn2, nl1, nl2⟩ := HG.out k hlt
      have hB : Below w.heap.size w wr := by obtain ⟨⟨m, rfl⟩, _⟩ := HW.out; exact below_drewN (Below.refl _ _) _
      obtain ⟨g1, o1, rfl, i1, q1⟩ := H1.out nl1
      obtain ⟨g2, o2, rfl, i2, q2⟩ := H2.out nl2
      obtain ⟨a0, a1, a2, a3⟩ := (q1 k a hn1).same (hB.block g1 i1)
      obtain ⟨d0, d1, d2, d3⟩ := (q2 k b hn2).same (hB.block g2 i2)
      have z0 : (0 : Int) ≤ (k : Int) := by omega
      have z1 : (k : Int) < (l1.length : Int) := by omega
      have HN := (show Hid (l1[k]? = some a ∧ l2[k]? = some b) from ⟨hn1, hn2⟩)
      clear HG H1 H2 q1 q2 nl1 nl2 hn1 hn2 hB
      have hneq := em_neq a b
      by_cases hab : a = b
      · rw [eqB_iff.2 hab] at hneq
        have HT := (show Hid (l1.take (k + 1) = l2.take (k + 1)) from by
          show List.take _ _ = _
          rw [List.take_add_one, List.take_add_one, HN.out.1, HN.out.2, HW.out.2, hab])
        clear hab
        simp only [emG] at hneq
        go_wp2_with fail
        go_quiet (fail)
        have HW2 := (show Hid ((∃ m, wr.drewN nq = w.drewN m) ∧ l1.take (k + 1) = l2.take (k + 1)) from ⟨by obtain ⟨⟨m, e⟩, _⟩ := HW.out; exact ⟨m + nq, by rw [e, World.drewN_drewN]⟩, HT.out⟩)
        generalize wr.drewN nq = w2 at *
        clear hneq a0 a1 a2 a3 d0 d1 d2 d3 HW
        go_wp2_with fail
        go_roundw
        case rel => exact ⟨k + 1, by omega, by go_num, HW2⟩
        case measure => simp [intOf]; omega
      · have hf : eqB a b = false := by
          cases q : eqB a b
          · rfl
          · exact absurd (eqB_iff.1 q) hab
        rw [hf] at hneq
        have HT := (show Hid (l1 ≠ l2) from fun e => hab (Option.some.inj (by rw [← HN.out.1, ← HN.out.2, e])))
        clear hab hf
        simp only [emG] at hneq
        go_wp2_with fail
        go_quiet (fail)
        have HW2 := (show Hid (∃ m, wr.drewN nq = w.drewN m) from by obtain ⟨⟨m, e⟩, _⟩ := HW.out; exact ⟨m + nq, by rw [e, World.drewN_drewN]⟩)
        generalize wr.drewN nq = w2 at *
        clear hneq a0 a1 a2 a3 d0 d1 d2 d3 HW
        go_wp2_with fail
        go_ret
        exact ⟨⟨false, rfl, ⟨fun q => (by cases q), fun q => absurd q HT.out⟩⟩, HW2.out⟩
    · obtain rfl : k = l1.length := by omega
      clear HG H1 H2
      go_wp2_with fail
      go_ret
      refine ⟨⟨true, rfl, ⟨fun _ => ?_, fun _ => rfl⟩⟩, HW.out.1⟩
      have h := HW.out.2
      rw [List.take_length] at h
      rw [h, ← HL.out, List.take_length]
end Go.Proofs.Ytokfgoepnfjafaa.N

namespace Go.Proofs.Ytokfgoepnfjafaa.N
open Go.RowKit Go.Maps
open Go.Proofs.Ytokfgoepnfjafaa.T
/-- A grammar that can be read, of a size that can be. -/
structure GI (W : World) (A : Option Addr) (gs : GL) : Prop where
  d : GrD W A gs
  l : gs.length ≤ 140737488355328
  t : ∀ g ∈ gs, g.1.size ≤ 140737488355328 ∧ g.2.length ≤ 140737488355328 ∧ ∀ n ∈ g.2, n.tx.size ≤ 140737488355328
theorem GI.later {W W' : World} {A : Option Addr} {gs : GL} (h : GI W A gs) (hb : Below W.heap.size W W') : GI W' A gs := ⟨h.d.later hb, h.l, h.t⟩
theorem GrIn.gi {W : World} {A : Option Addr} {c : Nat} {gs : GL} (h : GrIn W A c gs) : GI W A gs := ⟨h.d, by have := h.len; omega, h.tx⟩
theorem unG_zero {gs : GL} : ∀ (l : GL) (i : Nat), (unG gs i l).2 = 0 → unG gs i l = ((0, 0), 0) := by
  intro l
  induction l with
  | nil => intro i _; rfl
  | cons g l ih =>
    intro i h
    rw [unG_cons] at h ⊢
    cases q : unN gs 0 g.2 with
    | some k => rw [q] at h; exact absurd h (show (81 : Int) ≠ 0 by decide)
    | none => rw [q] at h; exact ih _ h
theorem ckG_zero {gs : GL} (h : (ckG gs).2 = 0) : ckG gs = ((0, 0), 0) := by
  unfold ckG at h ⊢
  by_cases h0 : gs.length = 0
  · rw [if_pos h0] at h; exact absurd h (by decide)
  · rw [if_neg h0] at h ⊢
    by_cases h2 : 200 < gs.length
    · rw [if_pos h2] at h; exact absurd h (by decide)
    · rw [if_neg h2] at h ⊢
      by_cases h3 : (c1G gs 0 0 gs).2 ≠ 0
      · rw [if_pos h3] at h; exact absurd h h3
      · rw [if_neg h3] at h ⊢; exact unG_zero _ _ h
theorem NuV.form {w w' : World} {gs : GL} {e : Ending} (h : NuV w w' gs e) : ∃ mv, e = .returned (.tuple #[mv, .agg #[.int .i64 (ckG gs).1.1, .int .i64 (ckG gs).1.2], .int .i64 (ckG gs).2]) ∧ ((ckG gs).2 = 0 → ∃ B, w.heap.size ≤ B ∧ mv = .map (some B) ∧ NmM w' B gs) := by
  rcases h with ⟨h1, h2⟩ | ⟨h1, B, h2, h3, h4⟩
  · exact ⟨_, h2, fun q => absurd q h1⟩
  · refine ⟨.map (some B), ?_, fun _ => ⟨B, h2, rfl, h4⟩⟩
    rw [ckG_zero h1]; exact h3
end Go.Proofs.Ytokfgoepnfjafaa.N

namespace Go.Proofs.Ytokfgoepnfjafaa.T
open Go.RowKit
theorem enters47 (args : Array Value) (w : World) : (callFunc 22 args).run Try.prog w = .ok (.enter 22 args) w := enters_of Try.func22 (by kernel_rfl) rfl args w
theorem step_call47 {ops : Array Oper} {o : Oper} {a : Act} {w : World} {K : Act → World → Prop} {Q : Exit → Act → World → Prop} {E : Prop} (hgd : o.guard = none) (x : Operand) (ho : o.op = .call { callee := .value (.func 22), args := #[x], argTypes := #[44] }) (v : Value) (hx : a.eval x = v)
    (hc : Calls Try.prog 22 #[v] w fun e w' => ∃ r, e = .returned r ∧ K (a.put o.dst r) w') :
    if Region.wanted o (yielded ops a.tmps) = true then Oper.wp Try.prog o a w K Q else E := by
  have hw : Region.wanted o (yielded ops a.tmps) = true := by simp [Region.wanted, hgd]
  rw [if_pos hw]
  have h47 := enters47
  have he : (execOp a.eval o).run Try.prog w = .ok (.enter 22 #[v]) w := by
    unfold execOp
    simp [ho, go_sem, invoke, h47]
    rw [← hx]
    cases x <;> simp [Act.eval]
  unfold Oper.wp
  rw [he, Oper.upon_enter]
  refine hc.mono ?_
  rintro e w' ⟨r, rfl, hk⟩
  exact hk
end Go.Proofs.Ytokfgoepnfjafaa.T

namespace Go.Proofs.Ytokfgoepnfjafaa.T
open Go.RowKit
theorem field_tx (n : Nd) (W : World) : (Instr.field 44 (ndG n) 2).run Try.prog W = .ok (.string n.tx) W := by
  simp [go_sem, asAgg, Instr.field, Try.isAgg9, Try.sizeOf9]
/-- A list of texts in a box. -/
structure TB (W : World) (b : Nat) (v : Value) : Prop where
  heap : W.heap[b]? = some (.cells #[v] 51 (0, 0))
theorem TB.lt {W : World} {b : Nat} {v : Value} (x : TB W b v) : b < W.heap.size := (Array.getElem?_eq_some_iff.1 x.heap).1
theorem TB.c0 {W : World} {b : Nat} {v : Value} (x : TB W b v) : W.cell? ⟨b, 0, none⟩ = some v := by rw [cell_of_row W b 0 _ 51 (0, 0) x.heap]; rfl
theorem TB.fz {W : World} {b : Nat} {v : Value} (x : TB W b v) : W.frozen? ⟨b, 0, none⟩ = false := frozen_of_row W b 0 _ 51 x.heap
theorem TB.same {W W' : World} {b : Nat} {v : Value} (x : TB W b v) (hb : W'.heap[b]? = W.heap[b]?) : TB W' b v := ⟨hb.trans x.heap⟩
theorem TB.set {W : World} {b : Nat} {v : Value} (x : TB W b v) (u : Value) : TB (W.setCell ⟨b, 0, none⟩ u) b u := ⟨by rw [heap_setCell_same W b 0 _ 51 _ x.heap]; rfl⟩

set_option maxRecDepth 100000 in
set_option maxHeartbeats 8000000 in
theorem names1_new (L : List Nd) (p : Pt) (va v : Value) (n : Nd) (l : List ByteArray) (g o cp bp bn B : Nat) (hl : l.length ≤ 2048) (w : World) (hn : L[p.2.1]? = some n) (_hne : bp ≠ bn) (hp : w.cell? ⟨bp, 0, none⟩ = some (.slice (some ⟨g, o, none⟩) L.length cp)) (hc : TB w bn v) (ho : w.ownsRow B 9 1 v l.length (stc l)) (hB : bn < B) (hBw : B ≤ w.heap.size) (hr : NdL w g o L) (_hg : g ≠ bn) (h6 : n.op = 6) (hi : inB n.tx l = false) :
    Calls Try.prog 20 #[ptG p, va, .pointer (some ⟨bp, 0, none⟩), .pointer (some ⟨bn, 0, none⟩)] w fun e w' => (∃ u, e = .returned u) ∧ ∃ v', TB w' bn v' ∧ w'.ownsRow B 9 1 v' (l.length + 1) (stc (l ++ [n.tx])) ∧ (∀ b, v'.ownBlock = some b → v.ownBlock = some b ∨ w.heap.size ≤ b) ∧ Kp (fun b => b = bn ∨ v.ownBlock = some b) w w' := by
  have hj : p.2.1 < L.length := by
    by_cases q : p.2.1 < L.length
    · exact q
    · rw [List.getElem?_eq_none (by omega)] at hn; cases hn
  obtain ⟨i0, hinf, hz0, hz1, hz2⟩ := info_parts Try.info9
  obtain ⟨e0, e1, e2, e3, e4, e5, e6⟩ := hr p.2.1 n hn
  have hlp := World.block_lt_of_cell? w _ hp
  have hlg := (hr p.2.1 n hn).lt
  have hlc := hc.lt
  simp only at hlp
  have c0 := hc.c0
  have f0 := hc.fz
  have z0 : (0 : Int) ≤ (p.2.1 : Int) := by omega
  have z1 : (p.2.1 : Int) < (L.length : Int) := by omega
  have t6 : (n.op == 6) = true := beq_iff_eq.2 h6
  have HCo : Hid (∀ n w, Calls Try.prog 22 #[ndG n] w fun e w' => e = .returned (ndG n) ∧ Below w.heap.size w w') := fun n w => copied_any n w
  have HCn : Hid (∀ W, Below w.heap.size w W → Calls Try.prog 21 #[v, .string n.tx] W fun e w' => e = .returned (.bool false) ∧ w' = W) := fun W hW => by
    have h := contains_any v n.tx l (by omega) W (own_rdt (own_below ho hW) rfl)
    rw [hi] at h
    exact h
  obtain ⟨W2, hW2⟩ : ∃ W2, W2 = (w.alloc (.cells #[.int .i64 p.1, .int .i64 p.2.1, .int .i64 p.2.2] 67)).alloc (.cells #[.int .i64 n.op, .int .i64 n.nn, .string n.tx, .int .u64 n.s0, .int .u64 n.s1, .int .u64 n.s2, .int .u64 n.s3] 44) := ⟨_, rfl⟩
  have hB2 : Below w.heap.size w W2 := by rw [hW2]; exact (below_box w _).alloc (below_box w _).size _
  have HB2 := (show Hid (Below w.heap.size w W2) from hB2)
  have hx2 : NB W2 (w.heap.size + 1) 0 n := by
    rw [hW2]
    have h := nb_new (w.alloc (.cells #[.int .i64 p.1, .int .i64 p.2.1, .int .i64 p.2.2] 67)) n
    rw [World.size_alloc] at h
    exact h
  have hs2 : W2.heap.size = w.heap.size + 2 := by rw [hW2]; simp
  have HO := (show Hid (W2.ownsRow B 9 1 v l.length (stc l)) from own_below ho hB2)
  have HT := (show Hid (TB W2 bn v) from hc.same (hB2.block bn hlc))
  have HX := (show Hid (NB W2 (w.heap.size + 1) 0 n) from hx2)
  have HCn2 := (show Hid (∀ _ : Unit, Calls Try.prog 21 #[v, .string n.tx] W2 fun e w' => e = .returned (.bool false) ∧ w' = W2) from fun _ => HCn.out W2 hB2)
  have HTw := (show Hid (TB w bn v) from hc)
  have HRw := (show Hid (∀ j, v.ownBlock = some j → j < w.heap.size) from fun j hj => (ho.lt j hj).2)
  clear hr hn hc ho h6 hi hx2 hB2 HCn
  subst hW2
  go_enter Try.func20, Try.ntmps20
  go_wp2_with fail
  refine (HCn2.out ()).mono ?_
  rintro e w3 ⟨rfl, rfl⟩
  clear HCn2 e0 e1 e2 e3 e4 e5 e6 c0 f0 hp t6
  generalize hW2 : (w.alloc (.cells #[.int .i64 p.1, .int .i64 p.2.1, .int .i64 p.2.2] 67)).alloc (.cells #[.int .i64 n.op, .int .i64 n.nn, .string n.tx, .int .u64 n.s0, .int .u64 n.s1, .int .u64 n.s2, .int .u64 n.s3] 44) = W2 at *
  clear hW2
  have k0 := HT.out.c0
  have f0 := HT.out.fz
  obtain ⟨d0, d1, d2, d3, d4, d5, d6⟩ := HX.out
  simp only [Nat.zero_add] at d0 d1 d2 d3 d4 d5 d6
  have hbn : bn < w.heap.size := hlc
  have hfl := field_tx n
  have HAp := (show Hid (∀ W : World, Below W2.drew.heap.size W2.drew W → ∃ g3 cap w5, (Builtin.append_ #[51, 51] 51 #[v, .slice (some ⟨W.heap.size, 0, none⟩) 1 1]).run Try.prog (W.alloc (.cells #[.string n.tx] 9)) = .ok (.slice (some ⟨g3, 0, none⟩) (l.length + 1) cap) w5 ∧ (w5.ownsRow B 9 1 (.slice (some ⟨g3, 0, none⟩) (l.length + 1) cap) (l.length + 1) (stc l ++ [.string n.tx]) ∧ (W.alloc (.cells #[.string n.tx] 9)).grownBy w5 v.ownBlock ∧ (v.ownBlock = some g3 ∨ g3 = W.heap.size + 1) ∧ g3 < w5.heap.size)) from fun W hW =>
    run_append_lies (P := Try.prog) (W.alloc (.cells #[.string n.tx] 9)) 51 51 B 9 i0 (.string ⟨#[]⟩) 1 16 Try.underlying51 hinf hz0 hz1 hz2 rfl (by decide) v l.length (stc l) ((own_below (own_drew HO.out) hW).alloc _) ⟨W.heap.size, 0, none⟩ 1 1 [.string n.tx] rfl (cell_one_new _ _ _) (by simp [Value.oneCell']) (by decide) (by unfold maxLen; omega) (by omega) (by have q1 := hW.size; have q2 : W2.drew.heap.size = W2.heap.size := rfl; rw [World.size_alloc]; omega) (W.heap.size + 1) (by simp))
  have HRow := (show Hid (∀ j, v.ownBlock = some j → B ≤ j ∧ j < W2.heap.size ∧ j < w.heap.size) from fun j hj => ⟨(HO.out.lt j hj).1, (HO.out.lt j hj).2, HRw.out j hj⟩)
  have HS := (show Hid (∀ W : World, (W.heap[bn]? = W2.heap[bn]?) → (W.heap[w.heap.size + 1]? = W2.heap[w.heap.size + 1]?) → W.cell? ⟨bn, 0, none⟩ = some v ∧ W.frozen? ⟨bn, 0, none⟩ = false ∧ W.cell? ⟨w.heap.size + 1, 0, none⟩ = some (.int .i64 n.op) ∧ W.cell? ⟨w.heap.size + 1, 1, none⟩ = some (.int .i64 n.nn) ∧ W.cell? ⟨w.heap.size + 1, 2, none⟩ = some (.string n.tx) ∧ W.cell? ⟨w.heap.size + 1, 3, none⟩ = some (.int .u64 n.s0) ∧ W.cell? ⟨w.heap.size + 1, 4, none⟩ = some (.int .u64 n.s1) ∧ W.cell? ⟨w.heap.size + 1, 5, none⟩ = some (.int .u64 n.s2) ∧ W.cell? ⟨w.heap.size + 1, 6, none⟩ = some (.int .u64 n.s3)) from fun W q1 q2 => by
    have h1 := HT.out.same q1
    have h2 := HX.out.same q2
    obtain ⟨d0, d1, d2, d3, d4, d5, d6⟩ := h2
    simp only [Nat.zero_add] at d0 d1 d2 d3 d4 d5 d6
    exact ⟨h1.c0, h1.fz, d0, d1, d2, d3, d4, d5, d6⟩)
  have HS2 := (show Hid (∀ W W5 : World, Below W2.drew.heap.size W2.drew W → (W.alloc (.cells #[.string n.tx] 9)).grownBy W5 v.ownBlock → W5.cell? ⟨bn, 0, none⟩ = some v ∧ W5.frozen? ⟨bn, 0, none⟩ = false ∧ W5.cell? ⟨w.heap.size + 1, 0, none⟩ = some (.int .i64 n.op) ∧ W5.cell? ⟨w.heap.size + 1, 1, none⟩ = some (.int .i64 n.nn) ∧ W5.cell? ⟨w.heap.size + 1, 2, none⟩ = some (.string n.tx) ∧ W5.cell? ⟨w.heap.size + 1, 3, none⟩ = some (.int .u64 n.s0) ∧ W5.cell? ⟨w.heap.size + 1, 4, none⟩ = some (.int .u64 n.s1) ∧ W5.cell? ⟨w.heap.size + 1, 5, none⟩ = some (.int .u64 n.s2) ∧ W5.cell? ⟨w.heap.size + 1, 6, none⟩ = some (.int .u64 n.s3)) from fun W W5 hW hg => by
    have q : ∀ b, b = bn ∨ b = w.heap.size + 1 → W5.heap[b]? = W2.heap[b]? := fun b hb => by
      have hb2 : b < W2.heap.size := by omega
      have hbW : b < W.heap.size := Nat.lt_of_lt_of_le hb2 hW.size
      rw [hg.block b (by rw [World.size_alloc]; omega) (fun e => by have := HRow.out b e.symm; omega), (below_box W _).block b hbW]
      exact hW.block b hb2
    exact HS.out W5 (q bn (.inl rfl)) (q _ (.inr rfl)))
  have HS1 := (show Hid (∀ W : World, Below W2.drew.heap.size W2.drew W → W.cell? ⟨bn, 0, none⟩ = some v ∧ W.frozen? ⟨bn, 0, none⟩ = false ∧ W.cell? ⟨w.heap.size + 1, 0, none⟩ = some (.int .i64 n.op) ∧ W.cell? ⟨w.heap.size + 1, 1, none⟩ = some (.int .i64 n.nn) ∧ W.cell? ⟨w.heap.size + 1, 2, none⟩ = some (.string n.tx) ∧ W.cell? ⟨w.heap.size + 1, 3, none⟩ = some (.int .u64 n.s0) ∧ W.cell? ⟨w.heap.size + 1, 4, none⟩ = some (.int .u64 n.s1) ∧ W.cell? ⟨w.heap.size + 1, 5, none⟩ = some (.int .u64 n.s2) ∧ W.cell? ⟨w.heap.size + 1, 6, none⟩ = some (.int .u64 n.s3)) from fun W hW => HS.out W (hW.block bn (by show bn < W2.heap.size; omega)) (hW.block (w.heap.size + 1) (by show w.heap.size + 1 < W2.heap.size; omega)))
  have HS4 := (show Hid (∀ W W5 : World, Below W2.drew.heap.size W2.drew W → (W.alloc (.cells #[.string n.tx] 9)).grownBy W5 v.ownBlock → ∀ b, b < w.heap.size → v.ownBlock ≠ some b → W5.heap[b]? = w.heap[b]?) from fun W W5 hW hg b hb hnb => by
    have hb2 : b < W2.heap.size := by omega
    have hbW : b < W.heap.size := Nat.lt_of_lt_of_le hb2 hW.size
    rw [hg.block b (by rw [World.size_alloc]; omega) (fun e => hnb e.symm), (below_box W _).block b hbW]
    exact (hW.block b hb2).trans (HB2.out.block b hb))
  have HS3 := (show Hid (∀ W : World, Below W2.drew.heap.size W2.drew W → (W.alloc (.cells #[.string n.tx] 9)).cell? ⟨bn, 0, none⟩ = some v) from fun W hW => by
    have h1 : TB W bn v := HT.out.same (hW.block bn (by show bn < W2.heap.size; omega))
    exact (h1.same ((below_box W _).block bn h1.lt)).c0)
  go_wp2_with fail
  go_region_law ((first
      | (refine step_call47 rfl _ (by rfl) _ (by rfl) ?_; refine (HCo.out n _).mono ?_; rintro e wA ⟨rfl, bA⟩; refine ⟨_, rfl, ?_⟩; obtain ⟨kA, fA, a0, a1, a2, a3, a4, a5, a6⟩ := HS1.out _ bA; have kB := HS3.out _ bA)
      | (refine step_append_lies _ (by rfl) _ _ _ (by rfl) B 9 i0 _ 1 16 Try.underlying51 hinf hz0 hz1 hz2 rfl (by omega) _ _ (stc l) (by rfl) ((own_below (own_drew HO.out) bA).alloc _) ⟨wA.heap.size, 0, none⟩ 1 1 [.string n.tx] (by rfl) (by rfl) (cell_one_new _ _ _) (by simp [Value.oneCell']) (by omega) (by unfold maxLen; omega) (by omega) (by have q1 := bA.size; have q2 : W2.drew.heap.size = W2.heap.size := rfl; rw [World.size_alloc]; omega) (wA.heap.size + 1) (by simp) ?_; intro g3 cap w5 hown1 hgrow hat hltg; obtain ⟨k5, f5, r0, r1, r2, r3, r4, r5, r6⟩ := HS2.out _ _ bA hgrow)))
  all_goals
    have h4 := HS4.out _ _ bA hgrow
    have hbnv : v.ownBlock ≠ some bn := fun e => by have := (HRow.out bn e).1; omega
    have hT5 : TB w5 bn v := HTw.out.same (h4 bn hlc hbnv)
    have hfin : (∃ v', TB (w5.setCell ⟨bn, 0, none⟩ (.slice (some ⟨g3, 0, none⟩) (l.length + 1) cap)) bn v' ∧ (w5.setCell ⟨bn, 0, none⟩ (.slice (some ⟨g3, 0, none⟩) (l.length + 1) cap)).ownsRow B 9 1 v' (l.length + 1) (stc (l ++ [n.tx])) ∧ (∀ b, v'.ownBlock = some b → v.ownBlock = some b ∨ w.heap.size ≤ b) ∧ Kp (fun b => b = bn ∨ v.ownBlock = some b) w (w5.setCell ⟨bn, 0, none⟩ (.slice (some ⟨g3, 0, none⟩) (l.length + 1) cap))) := by
      have q1 := bA.size
      have q2 : W2.drew.heap.size = W2.heap.size := rfl
      have q3 := HB2.out.size
      refine ⟨_, hT5.set _, ?_, fun b e => ?_, ⟨?_, ?_, ?_, ?_, fun b hb hnb => ?_⟩⟩
      · have h5 := ownsRow_setCell_below hown1 (a := ⟨bn, 0, none⟩) hB (.slice (some ⟨g3, 0, none⟩) (l.length + 1) cap)
        unfold stc
        rw [List.map_append]
        exact h5
      · have e2 : g3 = b := Option.some.inj e
        subst e2
        rcases hat with q | q
        · exact .inl q
        · exact .inr (by omega)
      · exact hgrow.os.trans (bA.os.trans HB2.out.os)
      · exact hgrow.tape.trans (bA.tape.trans HB2.out.tape)
      · exact hgrow.output.trans (bA.output.trans HB2.out.output)
      · have := hgrow.size; rw [World.size_alloc] at this; rw [World.size_setCell]; omega
      · rw [heap_setCell_other _ _ _ _ (fun e => hnb (.inl e))]
        exact h4 b hb (fun e => hnb (.inr e))
    go_end0
    exact ⟨⟨_, rfl⟩, hfin⟩
end Go.Proofs.Ytokfgoepnfjafaa.T

namespace Go.Proofs.Ytokfgoepnfjafaa.T
open Go.RowKit
theorem enters49 (args : Array Value) (w : World) : (callFunc 20 args).run Try.prog w = .ok (.enter 20 args) w := enters_of Try.func20 (by kernel_rfl) rfl args w
set_option maxRecDepth 100000 in
set_option maxHeartbeats 8000000 in
theorem names1_old (L : List Nd) (p : Pt) (va v : Value) (n : Nd) (l : List ByteArray) (g o cp bp bn B : Nat) (hl : l.length ≤ 2048) (w : World) (hn : L[p.2.1]? = some n) (hp : w.cell? ⟨bp, 0, none⟩ = some (.slice (some ⟨g, o, none⟩) L.length cp)) (hc : TB w bn v) (ho : w.ownsRow B 9 1 v l.length (stc l)) (hr : NdL w g o L) (h6 : ¬ (n.op = 6 ∧ inB n.tx l = false)) :
    Calls Try.prog 20 #[ptG p, va, .pointer (some ⟨bp, 0, none⟩), .pointer (some ⟨bn, 0, none⟩)] w fun e w' => (∃ u, e = .returned u) ∧ Below w.heap.size w w' := by
  have hj : p.2.1 < L.length := by
    by_cases q : p.2.1 < L.length
    · exact q
    · rw [List.getElem?_eq_none (by omega)] at hn; cases hn
  obtain ⟨e0, e1, e2, e3, e4, e5, e6⟩ := hr p.2.1 n hn
  have hlp := World.block_lt_of_cell? w _ hp
  have hlg := (hr p.2.1 n hn).lt
  have hlc := hc.lt
  simp only at hlp
  have c0 := hc.c0
  have z0 : (0 : Int) ≤ (p.2.1 : Int) := by omega
  have z1 : (p.2.1 : Int) < (L.length : Int) := by omega
  obtain ⟨W2, hW2⟩ : ∃ W2, W2 = (w.alloc (.cells #[.int .i64 p.1, .int .i64 p.2.1, .int .i64 p.2.2] 67)).alloc (.cells #[.int .i64 n.op, .int .i64 n.nn, .string n.tx, .int .u64 n.s0, .int .u64 n.s1, .int .u64 n.s2, .int .u64 n.s3] 44) := ⟨_, rfl⟩
  have hB2 : Below w.heap.size w W2 := by rw [hW2]; exact (below_box w _).alloc (below_box w _).size _
  have HB2 := (show Hid (Below w.heap.size w W2) from hB2)
  by_cases q6 : n.op = 6
  · have t6 : (n.op == 6) = true := beq_iff_eq.2 q6
    have hi : inB n.tx l = true := by
      cases q : inB n.tx l with
      | true => rfl
      | false => exact absurd ⟨q6, q⟩ h6
    have HCn : Hid (∀ _ : Unit, Calls Try.prog 21 #[v, .string n.tx] W2 fun e w' => e = .returned (.bool true) ∧ w' = W2) := fun _ => by
      have h := contains_any v n.tx l (by omega) W2 (own_rdt (own_below ho hB2) rfl)
      rw [hi] at h
      exact h
    clear hr hn hc ho h6 q6 hi hB2
    subst hW2
    go_enter Try.func20, Try.ntmps20
    go_wp2_with fail
    refine (HCn.out ()).mono ?_
    rintro e w3 ⟨rfl, rfl⟩
    clear HCn e0 e1 e2 e3 e4 e5 e6 c0 hp t6
    go_wp2_with fail
    go_end0
    exact ⟨⟨_, rfl⟩, HB2.out⟩
  · have t6 : (n.op == 6) = false := beq_eq_false_iff_ne.2 q6
    clear hr hn hc ho h6 q6 hB2
    subst hW2
    go_enter Try.func20, Try.ntmps20
    go_wp2_with fail
    go_end0
    exact ⟨⟨_, rfl⟩, HB2.out⟩

structure JM (L : List Nd) (Ap : Option Addr) (cp bp bn Bc B k : Nat) (X : Nat → Prop) (w : World) : Prop where
  far : Bc ≤ bp ∧ Bc ≤ bn ∧ bp < B ∧ bn < B ∧ bp ≠ bn ∧ Bc ≤ B
  s : ∃ v, TB w bn v ∧ (∀ b, X b ↔ b = bn ∨ v.ownBlock = some b) ∧ w.ownsRow B 9 1 v (nmL L k).length (stc (nmL L k))
  p : w.cell? ⟨bp, 0, none⟩ = some (.slice Ap L.length cp)
  r : L ≠ [] → ∃ g o, Ap = some ⟨g, o, none⟩ ∧ g < Bc ∧ g < w.heap.size ∧ NdL w g o L
theorem JM.kept {L : List Nd} {Ap : Option Addr} {cp bp bn Bc B k : Nat} {X : Nat → Prop} {w w' : World} (h : JM L Ap cp bp bn Bc B k X w) (hz : w.heap.size ≤ w'.heap.size) (hb : ∀ b, (b < B ∨ X b) → w'.heap[b]? = w.heap[b]?) : JM L Ap cp bp bn Bc B k X w' := by
  obtain ⟨f1, f2, f3, f4, f5, f6⟩ := h.far
  obtain ⟨v, hs, hx, ho⟩ := h.s
  refine ⟨h.far, ⟨v, hs.same (hb bn (.inl f4)), hx, ho.1, ?_⟩, (World.cell?_of_block (a := ⟨bp, 0, none⟩) (hb bp (.inl f3))).trans h.p, fun hne => ?_⟩
  · rcases ho.2 with q | ⟨g, cap, cur, rfl, r1, r2, rest⟩
    · exact .inl q
    · exact .inr ⟨g, cap, cur, rfl, r1, (hb g (.inr ((hx g).2 (.inr rfl)))).trans r2, rest⟩
  · obtain ⟨g, o, e, q1, q2, q3⟩ := h.r hne
    exact ⟨g, o, e, q1, by omega, q3.same (hb g (.inl (by omega)))⟩
theorem see49 (L : List Nd) (Ap : Option Addr) (cp bp bn Bc B : Nat) (hL : L.length ≤ 2048) : See L 20 #[.pointer (some ⟨bp, 0, none⟩), .pointer (some ⟨bn, 0, none⟩)] Bc B (JM L Ap cp bp bn Bc B) := by
  refine ⟨fun k X w w' h hz hb => h.kept hz hb, fun k X w h b hb => ?_, fun k X w A c h hB hk he hr hA => ?_⟩
  · obtain ⟨v, hs, hx, ho⟩ := h.s
    rcases (hx b).1 hb with rfl | q
    · exact ⟨h.far.2.1, hs.lt⟩
    · have := ho.lt b q; have := h.far.2.2.2.2.2; omega
  · obtain ⟨f1, f2, f3, f4, f5, f6⟩ := h.far
    obtain ⟨v, hs, hx, ho⟩ := h.s
    obtain ⟨g, o, rfl, q1, q2, q3⟩ := h.r (by rintro rfl; simp at hk)
    have hn : L[k]? = some L[k] := List.getElem?_eq_getElem hk
    have hpl : (pt L k).2.1 = k := mk_last _ _ _ _
    have hln := nmL_len L k
    have hrow : ∀ b, v.ownBlock = some b → B ≤ b := fun b q => (ho.lt b q).1
    have hpk : ∀ {W : World}, (∀ b, b < w.heap.size → b < B → b ≠ bn → W.heap[b]? = w.heap[b]?) → W.cell? ⟨bp, 0, none⟩ = some (.slice (some ⟨g, o, none⟩) L.length cp) ∧ NdL W g o L := fun hW =>
      ⟨(World.cell?_of_block (a := ⟨bp, 0, none⟩) (hW bp (World.block_lt_of_cell? w _ h.p) f3 f5)).trans h.p, q3.same (hW g q2 (by omega) (by omega))⟩
    by_cases h6 : L[k].op = 6 ∧ inB L[k].tx (nmL L k) = false
    · have hc := names1_new L (pt L k) (.slice A (arN (opAt L k)) c) v L[k] (nmL L k) g o cp bp bn B (by omega) w (by rw [hpl]; exact hn) f5 h.p hs ho f4 hB q3 (by omega) h6.1 h6.2
      refine hc.mono fun e w' ⟨hu, v', h1, h2, h3, h4⟩ => ⟨hu, fun b => b = bn ∨ v'.ownBlock = some b, ⟨h.far, ⟨v', h1, fun b => Iff.rfl, by rw [nmL_succ hn, if_pos h6, List.length_append]; exact h2⟩, (hpk (fun b b1 b2 b3 => h4.block b b1 (by rintro (q | q); exact b3 q; have := hrow b q; omega))).1, fun _ => ⟨g, o, rfl, q1, Nat.lt_of_lt_of_le q2 h4.size, (hpk (fun b b1 b2 b3 => h4.block b b1 (by rintro (q | q); exact b3 q; have := hrow b q; omega))).2⟩⟩, ⟨h4.os, h4.tape, h4.output, h4.size, fun b hb hnx => h4.block b hb (fun q => hnx ((hx b).2 q))⟩, fun b q => ?_⟩
      rcases q with q | q
      · exact .inl ((hx b).2 (.inl q))
      · rcases h3 b q with r | r
        · exact .inl ((hx b).2 (.inr r))
        · exact .inr r
    · have hc := names1_old L (pt L k) (.slice A (arN (opAt L k)) c) v L[k] (nmL L k) g o cp bp bn B (by omega) w (by rw [hpl]; exact hn) h.p hs ho q3 h6
      refine hc.mono fun e w' ⟨hu, hb⟩ => ⟨hu, X, ⟨h.far, ⟨v, hs.same (hb.block bn hs.lt), hx, by rw [nmL_succ hn, if_neg h6]; exact own_below ho hb⟩, (hpk (fun b b1 _ _ => hb.block b b1)).1, fun _ => ⟨g, o, rfl, q1, Nat.lt_of_lt_of_le q2 hb.size, (hpk (fun b b1 _ _ => hb.block b b1)).2⟩⟩, ⟨hb.os, hb.tape, hb.output, hb.size, fun b hlt _ => hb.block b hlt⟩, fun b q => .inl q⟩
end Go.Proofs.Ytokfgoepnfjafaa.T

namespace Go.Proofs.Ytokfgoepnfjafaa.T
open Go.RowKit
set_option maxRecDepth 100000 in
set_option maxHeartbeats 1000000 in
theorem through_long (L : List Nd) (Ap : Option Addr) (cp : Nat) (sv : Value) (hlong : 2048 < L.length) (w : World) :
    Calls Try.prog 19 #[.slice Ap L.length cp, sv] w fun e w' => e = .returned (.tuple #[.int .i64 (ck L).1, .int .i64 (ck L).2]) ∧ w' = w := by
  have HE := (show Hid (ck L = (0, 2)) from ck_long hlong)
  have z : (2048 : Int) < (L.length : Int) := by omega
  go_enter Try.func19, Try.ntmps19
  go_wp2_with fail
  go_ret2
  exact ⟨by rw [HE.out]; rfl, rfl⟩

set_option maxRecDepth 100000 in
set_option maxHeartbeats 4000000 in
theorem names_any (L : List Nd) (Ap : Option Addr) (cp : Nat) (hL : L.length ≤ 140737488355328) (hT : ∀ n ∈ L, n.tx.size ≤ 140737488355328) (w : World) (hp : RdN w Ap L) :
    Calls Try.prog 10 #[.slice Ap L.length cp] w fun e w' => NmV w w' L e ∧ Below w.heap.size w w' := by
  obtain ⟨W2, hW2⟩ : ∃ W2, W2 = (w.alloc (.cells #[.slice Ap L.length cp] 36)).alloc (.cells #[.slice none 0 0] 51) := ⟨_, rfl⟩
  have hB1 := below_box w (.cells #[.slice Ap L.length cp] 36)
  have hB2 : Below w.heap.size w W2 := by rw [hW2]; exact hB1.alloc hB1.size _
  have hs2 : W2.heap.size = w.heap.size + 2 := by rw [hW2]; simp
  have e0 : W2.heap[w.heap.size]? = some (.cells #[.slice Ap L.length cp] 36 (0, 0)) := by
    rw [hW2, (below_box _ _).block _ (by simp)]
    exact heap_alloc_new w _
  have e1 : W2.heap[w.heap.size + 1]? = some (.cells #[.slice none 0 0] 51 (0, 0)) := by
    rw [hW2]
    have h := heap_alloc_new (w.alloc (.cells #[.slice Ap L.length cp] 36)) (.cells #[.slice none 0 0] 51)
    rw [World.size_alloc] at h
    exact h
  have k0 : W2.cell? ⟨w.heap.size, 0, none⟩ = some (.slice Ap L.length cp) := by rw [cell_of_row W2 _ 0 _ 36 (0, 0) e0]; rfl
  have HT : Hid (∀ _ : Unit, Calls Try.prog 19 #[.slice Ap L.length cp, .func (.func 20) #[] #[.pointer (some ⟨w.heap.size, 0, none⟩), .pointer (some ⟨w.heap.size + 1, 0, none⟩)]] W2 fun e w' => e = .returned (.tuple #[.int .i64 (ck L).1, .int .i64 (ck L).2]) ∧ Below w.heap.size W2 w' ∧ ((ck L).2 = 0 → ∃ v, TB w' (w.heap.size + 1) v ∧ w'.ownsRow w.heap.size 9 1 v (nmL L L.length).length (stc (nmL L L.length)))) := fun _ => by
    by_cases hlen : 2048 < L.length
    · exact (through_long L Ap cp _ hlen W2).mono fun e w' ⟨h1, h2⟩ => ⟨h1, by rw [h2]; exact Below.refl _ _, fun q => by rw [ck_long hlen] at q; cases q⟩
    · refine (through_any L 20 _ _ Ap cp w.heap.size hL hT W2 (by omega) (hp.below hB2 (Nat.le_refl _)) (fun hne a ha => by
        obtain ⟨g, o, e, lt, _⟩ := hp hne
        rw [e] at ha
        cases ha
        exact lt) enters49 (see49 L Ap cp w.heap.size (w.heap.size + 1) w.heap.size W2.heap.size (by omega)) (fun b => b = w.heap.size + 1) ⟨by omega, ⟨_, ⟨e1⟩, fun b => by simp [Value.ownBlock], World.ownsRow_nil _ _ _ _⟩, k0, fun hne => ?_⟩).mono fun e w' ⟨h1, h2, k, X, hj, hk⟩ => ⟨h1, h2, fun q => by
          obtain ⟨v, h3, _, h4⟩ := hj.s
          rw [hk q] at h4
          exact ⟨v, h3, own_base h4 (by omega)⟩⟩
      obtain ⟨g, o, e, lt, cl⟩ := hp hne
      exact ⟨g, o, e, lt, by omega, cl.same (hB2.block g lt)⟩
  have HB2 := (show Hid (Below w.heap.size w W2) from hB2)
  clear hB1 hB2 e0 e1 hp hT hs2
  have HE : Hid (nmE L = if (ck L).2 = 0 then nmL L L.length else []) := rfl
  subst hW2
  go_enter Try.func10, Try.ntmps10
  go_wp2_with fail
  refine (HT.out ()).mono ?_
  rintro e w3 ⟨rfl, b3, hn⟩
  have HB3 := (show Hid (Below w.heap.size w w3) from HB2.out.trans b3)
  clear HT b3 HB2 k0
  by_cases hc : (ck L).2 = 0
  · obtain ⟨v, h3, h4⟩ := hn hc
    have c0 := h3.c0
    have HI := (show Hid (nmE L = nmL L L.length ∧ (ck L).2 = 0) from ⟨by rw [HE.out, if_pos hc], hc⟩)
    have HO := (show Hid (w3.ownsRow w.heap.size 9 1 v (nmL L L.length).length (stc (nmL L L.length))) from h4)
    have t1 : ((ck L).2 != 0) = false := by rw [hc]; rfl
    clear hn hc HE h3 h4
    go_wp2_with fail
    go_ret2
    exact ⟨⟨v, by rw [HI.out.2]; rfl, by rw [HI.out.1]; exact HO.out⟩, HB3.out⟩
  · have HI := (show Hid (nmE L = []) from by show nmE L = _; rw [HE.out, if_neg hc])
    have t1 : ((ck L).2 != 0) = true := by rw [bne, beq_eq_false_iff_ne.2 hc]; rfl
    clear hn hc HE
    go_wp2_with fail
    go_ret2
    exact ⟨⟨_, rfl, by rw [HI.out]; exact World.ownsRow_nil _ _ _ _⟩, HB3.out⟩
end Go.Proofs.Ytokfgoepnfjafaa.T

namespace Go.Proofs
open Go.Shelf
def Try.lays189_ren : Go.Shelf.Ren := ⟨fun | 189 => 55 | 125 => 59 | 257 => 58 | 128 => 69 | 129 => 70 | 294 => 60 | 295 => 61 | 296 => 62 | 297 => 63 | 298 => 64 | 299 => 65 | 216 => 66 | 300 => 67 | 301 => 68 | 328 => 71 | 329 => 72 | 330 => 73 | 331 => 74 | 332 => 75 | 215 => 76 | 343 => 77 | n => n, fun | 28 => 91 | 3 => 3 | 46 => 104 | 0 => 0 | 51 => 114 | 53 => 40 | 4 => 4 | 183 => 107 | 182 => 106 | 131 => 54 | 5 => 5 | 9 => 9 | 218 => 116 | 222 => 120 | 228 => 123 | 229 => 124 | n => n, fun | n => n⟩
theorem Try.lays189 : Go.Proofs.Lays.n189 Try.prog Try.lays189_ren := {
  mixed := by kernel_rfl
  f125 := Try.func59.trans (congrArg some (by kernel_rfl))
  f128 := Try.func69.trans (congrArg some (by kernel_rfl))
  f129 := Try.func70.trans (congrArg some (by kernel_rfl))
  f189 := Try.func55.trans (congrArg some (by kernel_rfl))
  f215 := Try.func76.trans (congrArg some (by kernel_rfl))
  f216 := Try.func66.trans (congrArg some (by kernel_rfl))
  f257 := Try.func58.trans (congrArg some (by kernel_rfl))
  f294 := Try.func60.trans (congrArg some (by kernel_rfl))
  f295 := Try.func61.trans (congrArg some (by kernel_rfl))
  f296 := Try.func62.trans (congrArg some (by kernel_rfl))
  f297 := Try.func63.trans (congrArg some (by kernel_rfl))
  f298 := Try.func64.trans (congrArg some (by kernel_rfl))
  f299 := Try.func65.trans (congrArg some (by kernel_rfl))
  f300 := Try.func67.trans (congrArg some (by kernel_rfl))
  f301 := Try.func68.trans (congrArg some (by kernel_rfl))
  f328 := Try.func71.trans (congrArg some (by kernel_rfl))
  f329 := Try.func72.trans (congrArg some (by kernel_rfl))
  f330 := Try.func73.trans (congrArg some (by kernel_rfl))
  f331 := Try.func74.trans (congrArg some (by kernel_rfl))
  f332 := Try.func75.trans (congrArg some (by kernel_rfl))
  f343 := Try.func77.trans (congrArg some (by kernel_rfl))
  t0 := Try.underlying0
  a0 := Try.isAgg0
  z0 := Try.sizeOf0
  v0 := Try.zeroValue0
  t3 := Try.underlying3
  a3 := Try.isAgg3
  z3 := Try.sizeOf3
  v3 := Try.zeroValue3
  t4 := Try.underlying4
  a4 := Try.isAgg4
  z4 := Try.sizeOf4
  v4 := Try.zeroValue4
  t5 := Try.underlying5
  a5 := Try.isAgg5
  z5 := Try.sizeOf5
  v5 := Try.zeroValue5
  t9 := Try.underlying9
  a9 := Try.isAgg9
  z9 := Try.sizeOf9
  v9 := Try.zeroValue9
  t28 := Try.underlying91
  a28 := Try.isAgg91
  z28 := Try.sizeOf91
  v28 := Try.zeroValue91
  t46 := Try.underlying104
  a46 := Try.isAgg104
  z46 := Try.sizeOf104
  v46 := Try.zeroValue104
  t51 := Try.underlying114
  a51 := Try.isAgg114
  z51 := Try.sizeOf114
  v51 := Try.zeroValue114
  t53 := Try.underlying40
  a53 := Try.isAgg40
  z53 := Try.sizeOf40
  v53 := Try.zeroValue40
  t131 := Try.underlying54
  a131 := Try.isAgg54
  z131 := Try.sizeOf54
  v131 := Try.zeroValue54
  t182 := Try.underlying106
  a182 := Try.isAgg106
  z182 := Try.sizeOf106
  v182 := Try.zeroValue106
  t183 := Try.underlying107
  a183 := Try.isAgg107
  z183 := Try.sizeOf107
  v183 := Try.zeroValue107
  t218 := Try.underlying116
  a218 := Try.isAgg116
  z218 := Try.sizeOf116
  v218 := Try.zeroValue116
  t222 := Try.underlying120
  a222 := Try.isAgg120
  z222 := Try.sizeOf120
  v222 := Try.zeroValue120
  t228 := Try.underlying123
  a228 := Try.isAgg123
  z228 := Try.sizeOf123
  v228 := Try.zeroValue123
  t229 := Try.underlying124
  a229 := Try.isAgg124
  z229 := Try.sizeOf124
  v229 := Try.zeroValue124 }
end Go.Proofs

namespace Go.Proofs.Ytokfgoepnfjafaa.N
open Go.RowKit Go.Maps
open Go.Proofs.Ytokfgoepnfjafaa.T
theorem sortI_any {w : World} {base n : Nat} {v : Value} {zs : List Int} (hn : n = zs.length) (hl : zs.length ≤ 1000000) (h : w.ownsRow base 3 1 v n (zs.map (Value.int .i64))) :
    Calls Try.prog 55 #[v] w fun e w' => e = .returned (.tuple #[]) ∧ w'.ownsRow base 3 1 v n ((zs.mergeSort fun x y => decide (x ≤ y)).map (Value.int .i64)) ∧ w.grownBy w' v.ownBlock := by
  subst hn
  rcases h.2 with ⟨rfl, h0⟩ | ⟨g, cap, cur, rfl, hb, hg, h1, h2, h3, h4⟩
  · have hz : zs = [] := List.eq_nil_of_length_eq_zero h0
    subst hz
    refine (Any.slices_Sort_int_none Try.lays189 none 0 w).mono ?_
    rintro e w' ⟨rfl, rfl⟩
    exact ⟨rfl, by rw [List.mergeSort_nil]; exact World.ownsRow_nil _ _ _ _, World.grownBy.refl _ _⟩
  · have hH := Go.holds_of_blockI hg (ss := zs) (by rw [← h4, Nat.mul_one])
    refine (calls_of_every_depth fun D => AnyS.slices_Sort_int_in Try.lays189 D g 0 cap zs w hH (Array.getElem?_eq_some_iff.1 hg).1 (by omega)).mono ?_
    rintro e w' ⟨rfl, k, os, rfl⟩
    exact ⟨rfl, ownsRow_sortedI (by rw [List.length_mergeSort]) hb hg h1 h2 h3, grownBy_sortedI _⟩
open U (nI own_get own_slice wpList_app1 below_grown)
/-- While the numbers of names are laid down. -/
structure ClS (w wr : World) (gs : GL) (ns : List ByteArray) (v u : Value) (l : List Nat) : Prop where
  b : Below w.heap.size w wr
  o : wr.ownsRow w.heap.size 9 1 v ns.length (stc ns)
  r : wr.ownsRow w.heap.size 3 1 u l.length (l.map nI)
  x : ∀ (j : Nat) s, j < l.length → ns[j]? = some s → ∃ i, l[j]? = some i ∧ fdG gs s = some i
theorem nI_map (l : List Nat) : l.map nI = (l.map fun (x : Nat) => (x : Int)).map (Value.int .i64) := by rw [List.map_map]; rfl
theorem ClS.push {w wr w5 : World} {gs : GL} {ns : List ByteArray} {v u u' : Value} {l : List Nat} {s : ByteArray} {i : Nat} (h : ClS w wr gs ns v u l) (hs : ns[l.length]? = some s) (hf : fdG gs s = some i) (ho : w5.ownsRow w.heap.size 3 1 u' (l.length + 1) (l.map nI ++ [nI i])) (hg : wr.grownBy w5 u.ownBlock) : ClS w w5 gs ns v u' (l ++ [i]) := by
  refine ⟨below_grown h.b hg (fun k e => (h.r.lt k e).1), U.own_kept h.o hg (fun k e => own_apart h.r h.o (by decide) e), ?_, fun j t hj ht => ?_⟩
  · rw [List.length_append, List.map_append]; exact ho
  · rw [List.length_append] at hj
    by_cases q : j < l.length
    · obtain ⟨a, a1, a2⟩ := h.x j t q ht
      exact ⟨a, by rw [List.getElem?_append_left q]; exact a1, a2⟩
    · have e : j = l.length := by simp at hj; omega
      subst e
      rw [hs] at ht
      cases ht
      exact ⟨i, by rw [List.getElem?_append_right (Nat.le_refl _), Nat.sub_self]; rfl, hf⟩
theorem ClS.sorted {w wr : World} {gs : GL} {ns : List ByteArray} {v u : Value} {l : List Nat} {r : Nat} (h : ClS w wr gs ns v u l) (hl : l.length = ns.length) (hn : ns.length ≤ 2048)
    (hF : ∀ l : List Nat, l.length = ns.length → (∀ (k : Nat) s, ns[k]? = some s → ∃ j, l[k]? = some j ∧ fdG gs s = some j) → (l.map fun (x : Nat) => (x : Int)).mergeSort (fun x y => decide (x ≤ y)) = (cL gs r).map fun (x : Nat) => (x : Int)) :
    Calls Try.prog 55 #[u] wr fun e w' => e = .returned (.tuple #[]) ∧ w'.ownsRow w.heap.size 3 1 u (cL gs r).length ((cL gs r).map nI) ∧ Below w.heap.size w w' := by
  have h1 := h.r
  rw [nI_map] at h1
  have hs := hF l hl (fun j s hs => h.x j s (by have := (List.getElem?_eq_some_iff.1 hs).1; omega) hs)
  have hlen : (cL gs r).length = l.length := by
    have := congrArg List.length hs
    rw [List.length_mergeSort, List.length_map, List.length_map] at this
    exact this.symm
  refine (sortI_any (zs := l.map fun (x : Nat) => (x : Int)) (by rw [List.length_map]) (by rw [List.length_map]; omega) h1).mono ?_
  rintro e w' ⟨rfl, h2, h3⟩
  rw [hs, ← nI_map] at h2
  rw [hlen]
  exact ⟨rfl, h2, below_grown h.b h3 (fun k e => (h.r.lt k e).1)⟩
set_option maxRecDepth 100000 in
set_option maxHeartbeats 8000000 in
theorem calledBy_any {gs : GL} (hR : RtG gs) {r : Nat} {g : ByteArray × List Nd} (hgr : gs[r]? = some g) (A : Option Addr) (c B : Nat) (hL : g.2.length ≤ 2048) (hT : ∀ n ∈ g.2, n.tx.size ≤ 140737488355328) (w : World) (hp : RdN w A g.2) (hm : NmM w B gs) :
    Calls Try.prog 50 #[.slice A g.2.length c, .map (some B)] w fun e w' => (∃ v, e = .returned v ∧ w'.ownsRow w.heap.size 3 1 v (cL gs r).length ((cL gs r).map nI)) ∧ Below w.heap.size w w' := by
  have hck : (ck g.2).2 = 0 := hR.ck g (List.mem_of_getElem? hgr)
  have hnE : nmE g.2 = nmL g.2 g.2.length := by unfold nmE; rw [if_pos hck]
  obtain ⟨ns, hns⟩ : ∃ ns, ns = nmL g.2 g.2.length := ⟨_, rfl⟩
  have HN : Hid (∀ _ : Unit, Calls Try.prog 10 #[.slice A g.2.length c] w fun e w' => (∃ v, e = .returned (.tuple #[v, .int .i64 (ck g.2).2]) ∧ w'.ownsRow w.heap.size 9 1 v ns.length (stc ns)) ∧ Below w.heap.size w w') := fun _ => by
    have h := names_any g.2 A c (by omega) hT w hp
    unfold NmV at h
    rw [hnE, ← hns] at h
    exact h
  have HKn := (show Hid (∀ k, k < ns.length → ∃ s i, ns[k]? = some s ∧ s.size ≤ 140737488355328 ∧ fdG gs s = some i ∧ i < gs.length) from fun k hk => by
    have hs : ns[k]? = some ns[k] := List.getElem?_eq_getElem hk
    have hmem : ns[k] ∈ nmL g.2 g.2.length := by rw [← hns]; exact List.getElem_mem hk
    obtain ⟨n, n1, n2, n3⟩ := nmL_all.1 hmem
    obtain ⟨i, hi⟩ := hR.dn.c g (List.mem_of_getElem? hgr) n n1 n2
    exact ⟨ns[k], i, hs, by rw [← n3]; exact hT n n1, by rw [← n3]; exact hi, fdG_lt hi⟩)
  have hnl : ns.length ≤ 2048 := by rw [hns]; have := nmL_len g.2 g.2.length; omega
  have hg200 : gs.length ≤ 200 := hR.n2
  have HFin := (show Hid (∀ l : List Nat, l.length = ns.length → (∀ (k : Nat) s, ns[k]? = some s → ∃ j, l[k]? = some j ∧ fdG gs s = some j) → (l.map fun (x : Nat) => (x : Int)).mergeSort (fun x y => decide (x ≤ y)) = (cL gs r).map fun (x : Nat) => (x : Int)) from fun l h1 h2 => called_sort hR hgr (by rw [← hns]; exact h1) (by rw [← hns]; exact h2))
  have HM := (show Hid (NmM w B gs) from hm)
  clear hp hm hT hck hnE hns hR hgr
  go_enter Try.func50, Try.ntmps50
  go_wp2_with fail
  refine (HN.out ()).mono ?_
  rintro e w1 ⟨⟨v, rfl, ho⟩, b1⟩
  obtain ⟨A1, c1, rfl⟩ := own_slice ho
  have HS := (show Hid (ClS w w1 gs ns (.slice A1 ns.length c1) (.slice none 0 0) []) from ⟨b1, ho, World.ownsRow_nil _ _ _ _, fun j s hj => by cases hj⟩)
  clear HN b1 ho
  generalize (ck g.2).2 = cd at *
  go_wp2_with fail
  go_loopw [7, 17] (fun u t wr => ∃ (k : Nat) (l : List Nat) (A2 : Option Addr) (c2 : Nat), k ≤ ns.length ∧ t = .int .i64 (k : Int) ∧ u = .slice A2 k c2 ∧ Hid (l.length = k) ∧ Hid (ClS w wr gs ns (.slice A1 ns.length c1) (.slice A2 k c2) l)) (fun _ t _ => ns.length - (intOf t).toNat)
  case atStart => exact ⟨0, [], none, 0, by omega, by go_num, rfl, rfl, HS⟩
  case round =>
    obtain ⟨k, l, A2, c2, hk, rfl, rfl, HLk, HW⟩ := hrel
    clear HS
    by_cases hlt : k < ns.length
    · obtain ⟨s, i, hs, hsz, hf, hi⟩ := HKn.out k hlt
      obtain ⟨g1, cap1, e1, lb1, l1, x1, _⟩ := own_get HW.out.o (j := k) (x := .string s) (by unfold stc; rw [List.getElem?_map, hs]; rfl)
      cases e1
      have hrun : (Instr.lookup 45 (.map (some B)) (.string s) false).run Try.prog wr = .ok (.int .i64 i) wr := NmM.look0 (HM.out.same (HW.out.b.block B HM.out.lt)) hsz hf
      have z0 : (0 : Int) ≤ (k : Int) := by omega
      have z1 : (k : Int) < (ns.length : Int) := by omega
      have HO := (show Hid (wr.ownsRow w.heap.size 3 1 (.slice A2 k c2) k (l.map nI)) from by have h := HW.out.r; rw [HLk.out] at h; exact h)
      have HBw := (show Hid (w.heap.size ≤ wr.heap.size) from HW.out.b.size)
      have HPu := (show Hid (∀ (u' : Value) (w5 : World), w5.ownsRow w.heap.size 3 1 u' (k + 1) (l.map nI ++ [nI i]) → wr.grownBy w5 (Value.slice A2 k c2).ownBlock → ClS w w5 gs ns (.slice (some ⟨g1, 0, none⟩) ns.length c1) u' (l ++ [i])) from fun u' w5 h1 h2 => HW.out.push (by rw [HLk.out]; exact hs) hf (by rw [HLk.out]; exact h1) h2)
      have HL2 := (show Hid ((l ++ [i]).length = k + 1) from by show _ = _; rw [List.length_append, HLk.out]; rfl)
      clear HW hs hf hsz lb1 l1 HLk
      go_wp2_with (at_builtin; refine wpList_app1 rfl _ _ 91 rfl (.int .i64 0) 8 Try.underlying91 Try.info3 rfl w.heap.size k _ (l.map nI) rfl rfl HO.out rfl (by omega) (by decide) HBw.out ?_; intro g3 cap3 w5 ho5 hg5 hat5 hl5; have HW5 := (show Hid (ClS w w5 gs ns (.slice (some ⟨g1, 0, none⟩) ns.length c1) (.slice (some ⟨g3, 0, none⟩) (k + 1) cap3) (l ++ [i])) from HPu.out _ _ ho5 hg5); clear ho5 hg5 hat5 hl5 HPu HO HBw hrun x1)
      go_roundw
      case rel => exact ⟨k + 1, l ++ [i], some ⟨g3, 0, none⟩, cap3, by omega, by go_num, rfl, HL2, HW5⟩
      case measure => simp [intOf]; omega
    · obtain rfl : k = ns.length := by omega
      have HC := (show Hid (∀ _ : Unit, Calls Try.prog 55 #[.slice A2 ns.length c2] wr fun e w' => e = .returned (.tuple #[]) ∧ w'.ownsRow w.heap.size 3 1 (.slice A2 ns.length c2) (cL gs r).length ((cL gs r).map nI) ∧ Below w.heap.size w w') from fun _ => HW.out.sorted HLk.out hnl HFin.out)
      clear HFin HW HKn HM HLk
      go_wp2_with fail
      refine (HC.out ()).mono ?_
      rintro e w6 ⟨rfl, ho6, hb6⟩
      have HB6 := (show Hid (Below w.heap.size w w6) from hb6)
      have HO6 := (show Hid (w6.ownsRow w.heap.size 3 1 (.slice A2 ns.length c2) (cL gs r).length ((cL gs r).map nI)) from ho6)
      clear HC ho6 hb6
      go_wp2_with fail
      go_ret
      exact ⟨⟨_, rfl, HO6.out⟩, HB6.out⟩
end Go.Proofs.Ytokfgoepnfjafaa.N

namespace Go.Proofs.Ytokfgoepnfjafaa.N
open Go.RowKit Go.Maps
open Go.Proofs.Ytokfgoepnfjafaa.T

open U (nI own_get own_slice wpList_app1 below_grown TT Out)
/-- A net: of each rule what it calls. -/
def ntM (gs : GL) : List (List Value) := (List.range gs.length).map fun i => (cL gs i).map nI
theorem ntM_len (gs : GL) : (ntM gs).length = gs.length := by unfold ntM; rw [List.length_map, List.length_range]
theorem ntM_get {gs : GL} {i : Nat} (h : i < gs.length) : (ntM gs)[i]? = some ((cL gs i).map nI) := by
  unfold ntM
  rw [List.getElem?_map, List.getElem?_range h]; rfl
theorem Try.info37 : (Try.prog.info? 91).map (fun i => (i.zero, i.size, i.bytes)) = some (some (.slice none 0 0), 1, 24) := by kernel_rfl
/-- What a step of the range tells: a name and its number. -/
theorem step_nm {gs : GL} {D : DataW Unit} (hD : NmD D gs) {key v : Value} {kl : Lit} {y : DataW Unit × List MemPlace} (hkey : keyOf Try.prog 9 key = some kl) (hv : plainElem Try.prog 3 v = some y) (hat : ∀ zd, D.atKey kl zd = y.1) : ∃ (s : ByteArray) (i : Nat), kl = .string s.data.toList ∧ v = .int .i64 i ∧ fdG gs s = some i := by
  obtain ⟨x, rfl, rfl, _⟩ := Maps.keyOf_str Try.underlying9 hkey
  obtain ⟨c, rfl, rfl, _⟩ := plainElem_int_inv Try.underlying3 hv
  have hh := has_true_of_atKey hat
  obtain ⟨h1, h2⟩ := hD ⟨x.toArray⟩
  have hx : (⟨x.toArray⟩ : ByteArray).data.toList = x := rfl
  rw [hx] at h1 h2
  rw [hh] at h1
  cases hf : fdG gs ⟨x.toArray⟩ with
  | none => rw [hf] at h1; cases h1
  | some i =>
    have e := h2 i hf (.lit (.int .i64 0))
    rw [hat] at e
    injection e with e
    injection e with _ e
    exact ⟨⟨x.toArray⟩, i, rfl, by rw [e], hf⟩
/-- While the net is made. -/
structure NtS (w wr : World) (gs : GL) (B r cnt : Nat) (D : DataW Unit) (left : Lit → Bool) (g : Nat) (M : List (List Value)) (xs : List Value) (u : Value) : Prop where
  b : Below w.heap.size w wr
  x : GX wr w.heap.size u
  rg : wr.ranges Try.prog 9 (plainElem Try.prog 3) B r gs.length D left cnt
  t : TT wr w.heap.size 91 3 (.slice (some ⟨g, 0, none⟩) gs.length gs.length) M xs
  ln : M.length = gs.length
  gr : w.heap.size < g ∧ g < r
  dn : ∀ (s : ByteArray) (i : Nat), fdG gs s = some i → left (.string s.data.toList) = false → M[i]? = some ((cL gs i).map nI)
theorem same_str {a b : ByteArray} : (Lit.string a.data.toList).sameKey (.string b.data.toList) = true ↔ a = b := by
  constructor
  · intro h
    have := WideAt.sameKey_eq h
    injection this with e
    exact ByteArray.ext (Array.ext' e)
  · rintro rfl
    simp [Lit.sameKey]
/-- One name is gone over. -/
theorem NtS.put {w wr wA w4 : World} {gs : GL} {B r cnt cnt1 g : Nat} {D : DataW Unit} {left : Lit → Bool} {M : List (List Value)} {xs : List Value} {u v4 : Value} {s : ByteArray} {i : Nat} (h : NtS w wr gs B r cnt D left g M xs u) (_hd : Dn gs) (hf : fdG gs s = some i)
    (hA : wr.grownBy wA (some r)) (hrg : wA.ranges Try.prog 9 (plainElem Try.prog 3) B r gs.length D (fun z => left z && !z.sameKey (.string s.data.toList)) cnt1)
    (hsz : wA.heap.size = wr.heap.size) (hB : B < w.heap.size) (hb : Below wA.heap.size wA w4) (ho : w4.ownsRow wA.heap.size 3 1 v4 (cL gs i).length ((cL gs i).map nI)) :
    ∃ M2 xs2, NtS w (w4.setCell ⟨g, i, none⟩ v4) gs B r cnt1 D (fun z => left z && !z.sameKey (.string s.data.toList)) g M2 xs2 u := by
  have hlx : xs.length = gs.length := h.t.len.trans h.ln
  have hr := h.rg.lt
  have hwr := h.b.size
  have ht : TT wr w.heap.size 91 3 (.slice (some ⟨g, 0, none⟩) xs.length gs.length) M xs := by rw [hlx]; exact h.t
  have hout : Out (.slice (some ⟨g, 0, none⟩) xs.length gs.length) xs r := by
    refine ⟨fun e => ?_, fun j x hj e => ?_⟩
    · have e : g = r := Option.some.inj e
      have := h.gr.2
      omega
    · obtain ⟨row, _, hrow⟩ := ht.both hj
      obtain ⟨cur, hc⟩ := own_ty hrow e
      obtain ⟨_, _, _, _, _, _, _, _, _, hh, _⟩ := h.rg
      rw [hc] at hh
      cases hh
  have hi : i < gs.length := fdG_lt hf
  have ht2 : TT w4 w.heap.size 91 3 (.slice (some ⟨g, 0, none⟩) xs.length gs.length) M xs := (ht.turn hout hA).below hb
  have hnew : ∀ k, v4.ownBlock = some k → Out (.slice (some ⟨g, 0, none⟩) xs.length gs.length) xs k := fun k hk => by
    have := (ho.lt k hk).1
    exact ht.new (by omega)
  have ht3 := ht2.put (y := v4) (s := (cL gs i).map nI) (by rw [List.length_map]; exact U.own_base ho (by omega)) hnew (i := i) (by omega)
  have hst := (ht2.o.stored i v4).2
  have hgw : Below w.heap.size w wA := below_grown h.b hA (fun k e => by cases e; have := h.gr; omega)
  have hg4 : Below w.heap.size w w4 := hgw.trans (hb.mono hgw.size)
  refine ⟨M.set i ((cL gs i).map nI), xs.set i v4, below_grown hg4 hst (fun k e => by cases e; have := h.gr; omega), ?_, ?_, ?_, by rw [List.length_set]; exact h.ln, h.gr, ?_⟩
  · refine ((h.x.same (hA.block _ h.x.lt (fun e => by injection e with e; have := h.gr; omega))).below hb).same (hst.block _ ?_ (fun e => by injection e with e; have := h.gr; omega))
    exact ((h.x.same (hA.block _ h.x.lt (fun e => by injection e with e; have := h.gr; omega))).below hb).lt
  · exact (hrg.kept (U.below_grow hb none) (by simp) (by simp)).kept hst (fun e => by injection e with e; have := h.gr; omega) (fun e => by injection e with e; have := h.gr; omega)
  · rw [hlx] at ht3; exact ht3
  · intro t j ht hl
    by_cases e : s = t
    · subst e
      rw [hf] at ht
      cases ht
      rw [List.getElem?_set_self (by rw [h.ln]; exact hi)]
    · have hij : i ≠ j := fun q => by
        subst q
        obtain ⟨x, x1, x2, _⟩ := fdG_some hf
        obtain ⟨y, y1, y2, _⟩ := fdG_some ht
        rw [x1] at y1
        cases y1
        exact e (x2.symm.trans y2)
      rw [List.getElem?_set_ne hij]
      refine h.dn t j ht ?_
      cases q : left (.string t.data.toList)
      · rfl
      · have hs : (Lit.string t.data.toList).sameKey (.string s.data.toList) = false := by
          cases q2 : (Lit.string t.data.toList).sameKey (.string s.data.toList)
          · rfl
          · exact absurd (same_str.1 q2).symm e
        simp only [q, hs] at hl
        cases hl
end Go.Proofs.Ytokfgoepnfjafaa.N

namespace Go.Proofs.Ytokfgoepnfjafaa.N
open Go.RowKit Go.Maps
open Go.Proofs.Ytokfgoepnfjafaa.T

open U (nI own_get own_slice wpList_app1 below_grown TT Out info_split)
theorem NtS.done {w wr : World} {gs : GL} {B r cnt : Nat} {D : DataW Unit} {left : Lit → Bool} {g : Nat} {M : List (List Value)} {xs : List Value} {u : Value} (h : NtS w wr gs B r cnt D left g M xs u) (hd : Dn gs) (hl : ∀ kl, left kl = false) : TT wr w.heap.size 91 3 (.slice (some ⟨g, 0, none⟩) gs.length gs.length) (ntM gs) xs := by
  have e : M = ntM gs := by
    refine List.ext_getElem? fun i => ?_
    by_cases hi : i < gs.length
    · rw [ntM_get hi]
      have hg : gs[i]? = some gs[i] := List.getElem?_eq_getElem hi
      exact h.dn gs[i].1 i (fdG_of hg rfl (fun j x hj hx e => by have := hd.d j i x _ hx hg e; omega)) (hl _)
    · rw [List.getElem?_eq_none (by rw [h.ln]; omega), List.getElem?_eq_none (by rw [ntM_len]; omega)]
  rw [← e]
  exact h.t
theorem NtS.start {w w1 w2 w3 : World} {gs : GL} {A : Option Addr} {c B : Nat} {D : DataW Unit} (hw1 : w1 = w.alloc (.cells #[.slice A gs.length c] 24)) (ho : w2.ownsRow w.heap.size 91 1 (.slice (some ⟨w1.heap.size, 0, none⟩) gs.length gs.length) gs.length (List.replicate gs.length (.slice none 0 0))) (hg2 : w1.grownBy w2 none)
    (hrg : w3.ranges Try.prog 9 (plainElem Try.prog 3) B w2.heap.size gs.length D (Maps.has D) (Maps.size D)) (hg3 : w2.grownBy w3 none) (hD : NmD D gs) : NtS w w3 gs B w2.heap.size (Maps.size D) D (Maps.has D) w1.heap.size (List.replicate gs.length []) (List.replicate gs.length (.slice none 0 0)) (.slice A gs.length c) := by
  have hs1 : w1.heap.size = w.heap.size + 1 := by rw [hw1, World.size_alloc]
  have hb1 : Below w.heap.size w w1 := by rw [hw1]; exact below_box _ _
  have hx1 : GX w1 w.heap.size (.slice A gs.length c) := by rw [hw1]; exact GX.mk (heap_alloc_new w _)
  have hx2 := hx1.same (hg2.block _ hx1.lt (by simp))
  have hlt := (ho.lt _ rfl).2
  refine ⟨below_grown (below_grown hb1 hg2 (fun k e => by cases e)) hg3 (fun k e => by cases e), hx2.same (hg3.block _ hx2.lt (by simp)), hrg, (TT.made ho).kept hg3 (fun k e => by cases e) (fun i x k _ e => by cases e), List.length_replicate, ⟨by omega, hlt⟩, fun s i hf hl => ?_⟩
  have := (hD s).1
  rw [hf, hl] at this
  cases this
set_option maxRecDepth 100000 in
set_option maxHeartbeats 16000000 in
theorem netBy_any {gs : GL} (hR : RtG gs) (A : Option Addr) (c B : Nat) (w : World) (hp : GI w A gs) (hm : NmM w B gs) :
    Calls Try.prog 35 #[.map (some B), .agg #[.slice A gs.length c]] w fun e w' => (∃ v xs, e = .returned v ∧ TT w' w.heap.size 91 3 v (ntM gs) xs) ∧ Below w.heap.size w w' := by
  have hB := hm.lt
  have hn := hR.n2
  obtain ⟨w1, hw1⟩ : ∃ w1, w1 = w.alloc (.cells #[.slice A gs.length c] 24) := ⟨_, rfl⟩
  have HE0 := (show Hid (w.alloc (.cells #[.slice A gs.length c] 24) = w1) from hw1.symm)
  have hb1 : Below w.heap.size w w1 := by rw [hw1]; exact below_box _ _
  have q1 : w1.cell? ⟨w.heap.size, 0, none⟩ = some (.slice A gs.length c) := by rw [hw1]; exact (GX.mk (heap_alloc_new w _)).cl
  obtain ⟨i0, hinf, hz0, hz1, hz2⟩ := info_split Try.info37
  obtain ⟨w2, hmk, ho2, hg2⟩ := run_make_full (P := Try.prog) w1 w.heap.size 73 91 i0 (.slice none 0 0) 1 Try.underlying73 hinf hz0 hz1 .i64 .i64 gs.length (by rw [hz2]; omega) (by unfold maxLen; omega) hb1.size
  have ho2' : w2.ownsRow w.heap.size 91 1 (.slice (some ⟨w1.heap.size, 0, none⟩) gs.length gs.length) gs.length (List.replicate gs.length (.slice none 0 0)) := by
    have e : (madeCells (Value.cells (.slice none 0 0)) (gs.length * 1)).toList = List.replicate gs.length (Value.slice none 0 0) := by rw [Nat.mul_one]; exact toList_madeCells_one _ _
    rw [e] at ho2
    exact ho2
  obtain ⟨D, hown, hD⟩ := hm.ex
  have hown2 : w2.ownsMap Try.prog 9 (plainElem Try.prog 3) B gs.length D := by
    have h1 : w1.ownsMap Try.prog 9 (plainElem Try.prog 3) B gs.length D := by rw [hw1]; exact hown.alloc _
    exact h1.kept hg2 (by simp)
  obtain ⟨w3, hrn, hrg3, hg3, _⟩ := hown2.range keyed Try.underlying45
  have HS := (show Hid (NtS w w3 gs B w2.heap.size (Maps.size D) D (Maps.has D) w1.heap.size (List.replicate gs.length []) (List.replicate gs.length (.slice none 0 0)) (.slice A gs.length c)) from NtS.start hw1 ho2' hg2 hrg3 hg3 hD)
  have HD := (show Hid (NmD D gs) from hD)
  have HM := (show Hid (NmM w B gs) from hm)
  have HP := (show Hid (GI w A gs) from hp)
  have HR := (show Hid (RtG gs) from hR)
  clear hown hown2 hrg3 hg3 hD hm hp hR ho2 ho2' hg2 hb1 hw1 hinf hz0 hz1 hz2 i0
  go_enter Try.func35, Try.ntmps35
  go_wp2_with (rw [HE0.out])
  clear hmk hrn q1 HE0
  generalize w2.heap.size = r0 at *
  generalize w1.heap.size = g0 at *
  go_loopw [7] (fun _ wr => ∃ (left : Lit → Bool) (cnt : Nat) (M : List (List Value)) (xs : List Value), Hid (NtS w wr gs B r0 cnt D left g0 M xs (.slice A gs.length c))) (fun _ wr => wr.rangeLeft B r0)
  case atStart => exact ⟨_, _, _, _, HS⟩
  case round =>
    obtain ⟨left, cnt, M, xs, HW⟩ := hrel
    clear HS
    rcases HW.out.rg.next keyed 0 with ⟨h0, hl, hrun⟩ | ⟨key, v, kl, y, wA, cnt1, hkey, hlk, hv, hat, hrun, hrg, hlt, hgr, hsz, hen⟩
    · have HT := (show Hid (TT wr w.heap.size 91 3 (.slice (some ⟨g0, 0, none⟩) gs.length gs.length) (ntM gs) xs) from HW.out.done HR.out.dn hl)
      have HB := (show Hid (Below w.heap.size w wr) from HW.out.b)
      clear h0 hl HW HR HM HP HD
      go_wp2_with fail
      go_ret
      exact ⟨⟨_, xs, rfl, HT.out⟩, HB.out⟩
    · obtain ⟨s, i, rfl, rfl, hf⟩ := step_nm HD.out hkey hv hat
      have hi : i < gs.length := fdG_lt hf
      have hgw : Below w.heap.size w wA := below_grown HW.out.b hgr (fun k e => by cases e; have := HW.out.gr; omega)
      obtain ⟨g, hg⟩ : ∃ g, gs[i]? = some g := ⟨_, List.getElem?_eq_getElem hi⟩
      obtain ⟨b, o, A2, c2, rfl, lb, _, x1, r2⟩ := HP.out.d i g hg
      have x1' := (hgw.cell (p := ⟨b, o + i * 2 + 1, none⟩) lb).trans x1
      have q1 := (HW.out.x.same (hgr.block _ HW.out.x.lt (fun e => by injection e with e; have := HW.out.gr; omega))).cl
      have hck := HR.out.ck g (List.mem_of_getElem? hg)
      have hL : g.2.length ≤ 2048 := by
        by_cases q : g.2.length ≤ 2048
        · exact q
        · have := ck_long (L := g.2) (by omega)
          rw [this] at hck
          exact absurd hck (by decide)
      have HC := (show Hid (∀ _ : Unit, Calls Try.prog 50 #[.slice A2 g.2.length c2, .map (some B)] wA fun e w' => (∃ v, e = .returned v ∧ w'.ownsRow wA.heap.size 3 1 v (cL gs i).length ((cL gs i).map nI)) ∧ Below wA.heap.size wA w') from fun _ => calledBy_any HR.out hg A2 c2 B hL (HP.out.t g (List.mem_of_getElem? hg)).2.2 wA (r2.below hgw (Nat.le_refl _)) (HM.out.same (hgw.block B hB)))
      have HPu := (show Hid (∀ (w4 : World) (v4 : Value), Below wA.heap.size wA w4 → w4.ownsRow wA.heap.size 3 1 v4 (cL gs i).length ((cL gs i).map nI) → ∃ M2 xs2, NtS w (w4.setCell ⟨g0, i, none⟩ v4) gs B r0 cnt1 D (fun z => left z && !z.sameKey (.string s.data.toList)) g0 M2 xs2 (.slice (some ⟨b, o, none⟩) gs.length c)) from fun w4 v4 h1 h2 => HW.out.put HR.out.dn hf hgr hrg hsz hB h1 h2)
      have hlx : xs.length = gs.length := HW.out.t.len.trans HW.out.ln
      obtain ⟨x, hx⟩ : ∃ x, xs[i]? = some x := ⟨_, List.getElem?_eq_getElem (by omega)⟩
      have hgl := (HW.out.t.o.lt g0 rfl).2
      have HCe := (show Hid (∀ w4, Below wA.heap.size wA w4 → w4.cell? ⟨g0, i, none⟩ = some x ∧ w4.frozen? ⟨g0, i, none⟩ = false) from fun w4 h1 => by
        have ho : wr.ownsRow w.heap.size 91 1 (.slice (some ⟨g0, 0, none⟩) gs.length gs.length) gs.length xs := by have h := HW.out.t.o; rw [hlx] at h; exact h
        have hoA := U.own_below (U.own_kept ho hgr (fun k e q => by cases e; have q : g0 = r0 := Option.some.inj q; have := HW.out.gr; omega)) h1
        exact ⟨(hoA.cellAt i (by omega)).trans hx, hoA.frozenAt i⟩)
      have HLf := (show Hid (wr.rangeLeft B r0 = cnt ∧ cnt1 < cnt) from ⟨HW.out.rg.left_eq, hlt⟩)
      have z0 : (0 : Int) ≤ (i : Int) := by omega
      have z1 : (i : Int) < (gs.length : Int) := by omega
      clear hkey hlk hv hat hrg hlt hgr hsz hf hi hgw hg x1 r2 lb hck hL HW hlx hx hgl HM HP HR HD hB hn
      go_wp2_with fail
      refine (HC.out ()).mono ?_
      rintro e w4 ⟨⟨v4, rfl, ho4⟩, b4⟩
      obtain ⟨k0, k1⟩ := HCe.out w4 b4
      obtain ⟨M2, xs2, h2⟩ := HPu.out w4 v4 b4 ho4
      have HN2 := (show Hid _ from h2)
      obtain ⟨A4, c4, rfl⟩ := own_slice ho4
      clear ho4 b4 HC HPu HCe h2 hrun hen q1 x1'
      go_wp2_with fail
      go_roundw
      case rel => exact ⟨_, _, _, _, HN2⟩
      case measure => rw [HN2.out.rg.left_eq, HLf.out.1]; exact HLf.out.2
end Go.Proofs.Ytokfgoepnfjafaa.N

namespace Go.Proofs.Ytokfgoepnfjafaa.N
open Go.RowKit Go.Maps
open Go.Proofs.Ytokfgoepnfjafaa.T

open U (nI own_get own_slice wpList_app1 below_grown TT Out info_split)
/-- What netWith answers. -/
def NwV (w w' : World) (gs : GL) (k : Int) (e : Ending) : Prop := ∃ v, e = .returned (.tuple #[v, .int .i64 k]) ∧ (k ≠ 0 → v = .slice none 0 0) ∧ (k = 0 → ∃ xs, TT w' w.heap.size 91 3 v (ntM gs) xs)
set_option maxRecDepth 100000 in
set_option maxHeartbeats 4000000 in
theorem netOf_any (gs : GL) (A : Option Addr) (c : Nat) (w : World) (hp : GI w A gs) :
    Calls Try.prog 23 #[.agg #[.slice A gs.length c]] w fun e w' => NwV w w' gs (ckG gs).2 e ∧ Below w.heap.size w w' := by
  obtain ⟨w1, hw1⟩ : ∃ w1, w1 = (w.alloc (.cells #[.slice A gs.length c] 24)) := ⟨_, rfl⟩
  have HB1 : Hid (Below w.heap.size w w1) := by show Below _ _ _; rw [hw1]; exact below_box _ _
  have HG1 : Hid (GX w1 w.heap.size (.slice A gs.length c)) := by show GX _ _ _; rw [hw1]; exact GX.mk (heap_alloc_new w _)
  have HN := (show Hid (∀ _ : Unit, Calls Try.prog 34 #[.agg #[.slice A gs.length c]] w1 fun e w' => NuV w1 w' gs e ∧ Below w1.heap.size w1 w') from fun _ => numb_any gs A c hp.l hp.t w1 (hp.d.later HB1.out))
  have HP := (show Hid (GI w A gs) from hp)
  clear hp
  go_enter Try.func23, Try.ntmps23
  go_wp2_with fail
  rw [← hw1]
  refine (HN.out ()).mono ?_
  rintro e w3 ⟨hv, b3⟩
  obtain ⟨mv, rfl, hm⟩ := hv.form
  obtain ⟨w4, hw4⟩ : ∃ w4, w4 = w3.alloc (.cells #[.int .i64 ((ckG gs).1.1 : Int), .int .i64 ((ckG gs).1.2 : Int)] 87) := ⟨_, rfl⟩
  have HE4 := (show Hid (w3.alloc (.cells #[.int .i64 ((ckG gs).1.1 : Int), .int .i64 ((ckG gs).1.2 : Int)] 87) = w4) from hw4.symm)
  have HB := (show Hid (Below w.heap.size w w4) from by show Below _ _ _; rw [hw4]; exact (HB1.out.trans (b3.mono HB1.out.size)).alloc (HB1.out.trans (b3.mono HB1.out.size)).size _)
  have q1 : w4.cell? ⟨w.heap.size, 0, none⟩ = some (.slice A gs.length c) := by rw [hw4]; exact ((HG1.out.below b3).below (below_box _ _)).cl
  clear HN b3 hw1 HB1 HG1 hv
  by_cases hz : (ckG gs).2 = 0
  · obtain ⟨B, _, rfl, hM⟩ := hm hz
    have tz : ((ckG gs).2 != 0) = false := by rw [hz]; rfl
    have HC := (show Hid (∀ _ : Unit, Calls Try.prog 35 #[.map (some B), .agg #[.slice A gs.length c]] w4 fun e w' => (∃ v xs, e = .returned v ∧ TT w' w4.heap.size 91 3 v (ntM gs) xs) ∧ Below w4.heap.size w4 w') from fun _ => netBy_any (ckG_ok.1 hz) A c B w4 (HP.out.later HB.out) (by rw [hw4]; exact hM.later (below_box _ _)))
    have HZ := (show Hid ((ckG gs).2 = 0) from hz)
    clear hM hm hz HP hw4
    generalize hcd : (ckG gs).2 = cd at *
    have HCD := (show Hid ((ckG gs).2 = cd) from hcd)
    clear hcd
    go_wp2_with (rw [HE4.out])
    refine (HC.out ()).mono ?_
    rintro e w5 ⟨⟨v, xs, rfl, hT⟩, b5⟩
    have HB4 := (show Hid (Below w.heap.size w w5) from HB.out.trans (b5.mono HB.out.size))
    have HT := (show Hid (TT w5 w.heap.size 91 3 v (ntM gs) xs) from hT.base HB.out.size)
    clear HC b5 hT HB
    go_wp2_with fail
    refine bodyPost_ret (v := .tuple #[v, .int .i64 0]) (by simp [results, Try.results23, go_sem]) rfl ⟨⟨v, by rw [HCD.out, HZ.out], fun q => absurd (HCD.out.trans HZ.out) q, fun _ => ⟨xs, HT.out⟩⟩, HB4.out⟩
  · have tz : ((ckG gs).2 != 0) = true := by rw [bne, beq_eq_false_iff_ne.2 hz]; rfl
    have HZ := (show Hid ((ckG gs).2 ≠ 0) from hz)
    clear hm hz HP hw4
    generalize hcd : (ckG gs).2 = cd at *
    have HCD := (show Hid ((ckG gs).2 = cd) from hcd)
    clear hcd
    go_wp2_with (rw [HE4.out])
    refine bodyPost_ret (v := .tuple #[.slice none 0 0, .int .i64 cd]) (by simp [results, Try.results23, go_sem]) rfl ⟨⟨_, by rw [HCD.out], fun _ => rfl, fun q => absurd (HCD.out.symm.trans q) HZ.out⟩, HB.out⟩
end Go.Proofs.Ytokfgoepnfjafaa.N
