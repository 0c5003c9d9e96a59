/- DERIVED. Plain mathematics and walks, laid together (11). -/
import Derived.BigQuiet
import Derived.Deep.RegionLaw
import Derived.Test.YtokfgoepnfjafaaGreatEj10
namespace Go.Proofs.YtokfgoepnfjafaaGreat.N
open Go.RowKit Go.Maps
open Go.Proofs.YtokfgoepnfjafaaGreat.T
/-- The last nodes of a node's parts. -/
def kdR (L : List Nd) (k : Nat) : List Nat := ((run L k).take (arN (T.opAt L k))).reverse.map fun p => p.2.1
theorem kdR_of {L : List Nd} {k : Nat} {n : Nd} (hn : L[k]? = some n) (E : Nat → Em) : emS E ((run L k).take (arN n.op)) = (kdR L k).map E := by
  unfold kdR emS
  rw [op_of hn, List.map_map, List.map_reverse]
  rfl
theorem kds_R {L : List Nd} (h : Rt L) : Kds (kdR L) L := by
  refine ⟨fun k n hn => ?_, fun k j hk hj => ?_⟩
  · have hlt := (List.getElem?_eq_some_iff.1 hn).1
    have ho := (er_ok hn (h.each k hlt)).ar
    unfold kdR
    rw [op_of hn, List.length_map, List.length_reverse, List.length_take]
    omega
  · unfold kdR at hj
    obtain ⟨p, hp, rfl⟩ := List.mem_map.1 hj
    exact (run_bd (Nat.le_of_lt hk) (fun i hi => h.each i (by omega)) p (List.mem_of_mem_take (List.mem_reverse.1 hp))).2.1
/-- What is known of a node of a pattern. -/
def EE (r : ByteArray → Em) (L : List Nd) (j : Nat) : Em := ((emL (kdR L) r L L.length)[j]?).getD e0
theorem emL_pre {kd : Nat → List Nat} {r : ByteArray → Em} {L : List Nd} : ∀ (m k : Nat), k + m ≤ L.length → ∀ j, j < k → (emL kd r L (k + m))[j]? = (emL kd r L k)[j]? := by
  intro m
  induction m with
  | zero => intro k _ j _; rfl
  | succ m ih =>
    intro k hk j hj
    have hn : L[k + m]? = some L[k + m] := List.getElem?_eq_getElem (by omega)
    rw [show k + (m + 1) = (k + m) + 1 from by omega, emL_succ hn, List.getElem?_append_left (by rw [emL_len _ (by omega)]; omega)]
    exact ih k (by omega) j hj
theorem EE_at {r : ByteArray → Em} {L : List Nd} {k j : Nat} (hk : k ≤ L.length) (hj : j < k) : (emL (kdR L) r L k)[j]? = some (EE r L j) := by
  have hl := emL_len (kd := kdR L) (r := r) (L := L) k hk
  have e := emL_pre (kd := kdR L) (r := r) (L := L) (L.length - k) k (by omega) j hj
  rw [show k + (L.length - k) = L.length from by omega] at e
  have e2 : (emL (kdR L) r L k)[j]? = some _ := List.getElem?_eq_getElem (by omega)
  unfold EE
  rw [e, e2]
  rfl
theorem EE_step {r : ByteArray → Em} {L : List Nd} (h : Rt L) {k : Nat} {n : Nd} (hn : L[k]? = some n) : EE r L k = emN n (((emS (EE r L) ((run L k).take (arN n.op)))[0]?).getD e0) (((emS (EE r L) ((run L k).take (arN n.op)))[1]?).getD e0) r := by
  have hlt := (List.getElem?_eq_some_iff.1 hn).1
  have hl := emL_len (kd := kdR L) (r := r) (L := L) k (by omega)
  have e := EE_at (r := r) (L := L) (k := k + 1) (by omega) (Nat.lt_succ_self k)
  rw [emL_succ hn, List.getElem?_append_right (by omega), hl, Nat.sub_self] at e
  have e := Option.some.inj e
  rw [← e, kdR_of hn]
  have key : ∀ i, kE (emL (kdR L) r L k) (kdR L k) i = (((kdR L k).map (EE r L))[i]?).getD e0 := fun i => by
    unfold kE
    rw [List.getElem?_map]
    cases hj : (kdR L k)[i]? with
    | none => rfl
    | some j =>
      have hjk := (kds_R h).lt k j hlt (List.mem_of_getElem? hj)
      show ((emL (kdR L) r L k)[j]?).getD e0 = _
      rw [EE_at (by omega) hjk]
      rfl
  rw [key 0, key 1]
theorem EE_la {r : ByteArray → Em} {L : List Nd} (h0 : 0 < L.length) : EE r L (L.length - 1) = laE (kdR L) r L := by
  have h := la_at (kd := kdR L) (r := r) h0
  rw [EE_at (Nat.le_refl _) (by omega)] at h
  exact Option.some.inj h
theorem al_facts {n : Nd} (hn : alE n = 0) : (1 ≤ n.op ∧ n.op ≤ 23) ∧ (n.op = 14 ∨ n.op = 15 ∨ n.op = 16 → 0 ≤ n.nn ∧ n.nn ≤ 50) := by
  have har : ¬ ar n.op < 0 ∧ fdF n = true := by
    unfold alE at hn
    by_cases h : ar n.op < 0
    · rw [if_pos h] at hn; cases hn
    · rw [if_neg h] at hn
      by_cases q : fdF n = true
      · exact ⟨h, q⟩
      · rw [if_neg q] at hn; cases hn
  obtain ⟨ha, hf⟩ := har
  have hop : 1 ≤ n.op ∧ n.op ≤ 23 := by
    unfold ar at ha
    by_cases h : n.op < 1 ∨ 23 < n.op
    · rw [if_pos h] at ha; exact absurd (by decide) ha
    · omega
  unfold fdF at hf
  rw [Bool.and_eq_true, Bool.and_eq_true] at hf
  obtain ⟨⟨_, hu⟩, _⟩ := hf
  refine ⟨hop, fun h => ?_⟩
  unfold nuF at hu
  rw [if_pos (by omega)] at hu
  simpa using hu
theorem arN_0 {n : Nd} (h : 1 ≤ n.op ∧ n.op ≤ 23) (h6 : n.op ≤ 6 ∨ n.op = 17) : arN n.op = 0 := by unfold arN ar; rw [if_neg (by omega), if_pos h6]; rfl
theorem arN_2 {n : Nd} (h : n.op = 7 ∨ n.op = 8) : arN n.op = 2 := by unfold arN ar; rw [if_neg (by omega), if_neg (by omega), if_pos h]; rfl
theorem arN_1 {n : Nd} (h : 1 ≤ n.op ∧ n.op ≤ 23) (h6 : ¬ (n.op ≤ 6 ∨ n.op = 17)) (h7 : ¬ (n.op = 7 ∨ n.op = 8)) : arN n.op = 1 := by unfold arN ar; rw [if_neg (by omega), if_neg h6, if_neg h7]; rfl
/-- The program tells of a node what the document does. -/
theorem node_any {gs : GL} {now : List Em} (nd : Nd) (B : Nat) (Ar A : Option Addr) (cr c : Nat) (ps : List Em) (hal : alE nd = 0) (hs : nd.tx.size ≤ 140737488355328) (hf : nd.op = 6 → ∃ i, fdG gs nd.tx = some i) (hl : ps.length = arN nd.op) (hok : ∀ e ∈ ps, OkE e) (w : World) (hk : KnI w gs B Ar now) (hp : RdE w A ps) : Calls Tryz.prog 37 #[.agg #[.map (some B), .slice Ar now.length cr], ndG nd, .slice A (arN nd.op) c] w fun e w' => e = .returned (emG (emN nd ((ps[0]?).getD e0) ((ps[1]?).getD e0) (lkE gs now))) ∧ Below w.heap.size w w' := by
  obtain ⟨hop, hN⟩ := al_facts hal
  by_cases c1 : nd.op = 1
  · have e : emN nd ((ps[0]?).getD e0) ((ps[1]?).getD e0) (lkE gs now) = nothE := by unfold emN; rw [if_pos (by omega)]; rfl
    rw [e]; exact node_1 nd _ _ A _ c c1 w
  by_cases c17 : nd.op = 17
  · have e : emN nd ((ps[0]?).getD e0) ((ps[1]?).getD e0) (lkE gs now) = nothE := by unfold emN; rw [if_pos (by omega)]; rfl
    rw [e]; exact node_17 nd _ _ A _ c c17 w
  by_cases c2 : nd.op = 2
  · have e : emN nd ((ps[0]?).getD e0) ((ps[1]?).getD e0) (lkE gs now) = ⟨false, true, -1, 0⟩ := by unfold emN; rw [if_neg (by omega), if_neg (by omega), if_pos c2]
    rw [e]; exact node_2 nd _ _ A _ c c2 w
  by_cases c3 : nd.op = 3
  · have e : emN nd ((ps[0]?).getD e0) ((ps[1]?).getD e0) (lkE gs now) = exaE 1 := by unfold emN; rw [if_neg (by omega), if_neg (by omega), if_neg c2, if_pos (by omega)]; rfl
    rw [e]; exact node_3 nd _ _ A _ c c3 w
  by_cases c5 : nd.op = 5
  · have e : emN nd ((ps[0]?).getD e0) ((ps[1]?).getD e0) (lkE gs now) = exaE 1 := by unfold emN; rw [if_neg (by omega), if_neg (by omega), if_neg c2, if_pos (by omega)]; rfl
    rw [e]; exact node_5 nd _ _ A _ c c5 w
  by_cases c4 : nd.op = 4
  · have e : emN nd ((ps[0]?).getD e0) ((ps[1]?).getD e0) (lkE gs now) = exaE (nd.tx.size : Int) := by unfold emN; rw [if_neg (by omega), if_neg (by omega), if_neg c2, if_neg (by omega), if_pos c4]; rfl
    rw [e]; exact node_4 nd _ _ A _ c c4 w
  by_cases c6 : nd.op = 6
  · obtain ⟨i, hi⟩ := hf c6
    have hil : i < now.length := by rw [hk.n]; exact fdG_lt hi
    have he : now[i]? = some now[i] := List.getElem?_eq_getElem hil
    have e : emN nd ((ps[0]?).getD e0) ((ps[1]?).getD e0) (lkE gs now) = now[i] := by
      unfold emN
      rw [if_neg (by omega), if_neg (by omega), if_neg c2, if_neg (by omega), if_neg c4, if_pos c6]
      unfold lkE
      rw [hi]
      show (now[i]?).getD e0 = _
      rw [he]
      rfl
    rw [e]; exact node_6 nd B Ar A cr _ c c6 hs w hk hi he
  by_cases c7 : nd.op = 7
  · have ha := arN_2 (n := nd) (.inl c7)
    rw [ha] at hl ⊢
    obtain ⟨x, y, rfl⟩ : ∃ x y, ps = [x, y] := by
      match ps, hl with
      | [x, y], _ => exact ⟨x, y, rfl⟩
    have e : emN nd (([x, y][0]?).getD e0) (([x, y][1]?).getD e0) (lkE gs now) = seqE x y := by unfold emN; rw [if_neg (by omega), if_neg (by omega), if_neg c2, if_neg (by omega), if_neg c4, if_neg c6, if_pos c7]; rfl
    rw [e]; exact node_7 nd _ _ A _ c c7 (hok x (by simp)) (hok y (by simp)) w hp rfl
  by_cases c8 : nd.op = 8
  · have ha := arN_2 (n := nd) (.inr c8)
    rw [ha] at hl ⊢
    obtain ⟨x, y, rfl⟩ : ∃ x y, ps = [x, y] := by
      match ps, hl with
      | [x, y], _ => exact ⟨x, y, rfl⟩
    have e : emN nd (([x, y][0]?).getD e0) (([x, y][1]?).getD e0) (lkE gs now) = choE x y := by unfold emN; rw [if_neg (by omega), if_neg (by omega), if_neg c2, if_neg (by omega), if_neg c4, if_neg c6, if_neg c7, if_pos c8]; rfl
    rw [e]; exact node_8 nd _ _ A _ c c8 w hp rfl
  have ha := arN_1 hop (by omega) (by omega)
  rw [ha] at hl ⊢
  obtain ⟨x, rfl⟩ : ∃ x, ps = [x] := by
    match ps, hl with
    | [x], _ => exact ⟨x, rfl⟩
  have hx := hok x (by simp)
  have e : abE nd x = emN nd (([x][0]?).getD e0) (([x][1]?).getD e0) (lkE gs now) := ab_em hx (by omega)
  rw [← e]
  exact node_else nd _ _ A _ c (fun c hc => by omega) hN hx w hp rfl
end Go.Proofs.YtokfgoepnfjafaaGreat.N

namespace Go.Proofs.YtokfgoepnfjafaaGreat.N
open Go.RowKit Go.Maps
open Go.Proofs.YtokfgoepnfjafaaGreat.T
theorem RdE.same {W W' : World} {A : Option Addr} {l : List Em} (h : RdE W A l) (hz : W.heap.size ≤ W'.heap.size) (hb : ∀ g o, A = some ⟨g, o, none⟩ → W'.heap[g]? = W.heap[g]?) : RdE W' A l := fun hl => by
  obtain ⟨g, o, e, lt, c⟩ := h hl
  exact ⟨g, o, e, Nat.lt_of_lt_of_le lt hz, fun j x hx => (c j x hx).same (hb g o e)⟩
theorem KnI.same {W W' : World} {gs : GL} {B : Nat} {A : Option Addr} {now : List Em} (h : KnI W gs B A now) (hz : W.heap.size ≤ W'.heap.size) (hB : W'.heap[B]? = W.heap[B]?) (hb : ∀ g o, A = some ⟨g, o, none⟩ → W'.heap[g]? = W.heap[g]?) : KnI W' gs B A now := ⟨h.m.same hB, h.r.same hz hb, h.n⟩
/-- A right pattern that calls rules of the grammar alone. -/
structure PtR (gs : GL) (now : List Em) (L : List Nd) : Prop where
  rt : Rt L
  sz : ∀ n ∈ L, n.tx.size ≤ 140737488355328
  fd : ∀ n ∈ L, n.op = 6 → ∃ i, fdG gs n.tx = some i
  ok : OkN gs now
theorem PtR.al {gs : GL} {now : List Em} {L : List Nd} (h : PtR gs now L) : ∀ n ∈ L, alE n = 0 := fun n hn => by
  obtain ⟨k, hk⟩ := List.getElem?_of_mem hn
  exact (er_ok hk (h.rt.each k (List.getElem?_eq_some_iff.1 hk).1)).al
theorem PtR.lk {gs : GL} {now : List Em} {L : List Nd} (h : PtR gs now L) : ∀ n ∈ L, n.op = 6 → OkE (lkE gs now n.tx) := fun n hn h6 => by
  obtain ⟨k, hk⟩ := h.fd n hn h6
  have hlt := fdG_lt hk
  have hl := h.ok.n
  have e : now[k]? = some now[k] := List.getElem?_eq_getElem (by omega)
  unfold lkE
  rw [hk]
  show OkE ((now[k]?).getD e0)
  rw [e]
  exact h.ok.o _ (List.mem_of_getElem? e)
theorem PtR.ee {gs : GL} {now : List Em} {L : List Nd} (h : PtR gs now L) {j : Nat} (hj : j < L.length) : OkE (EE (lkE gs now) L j) :=
  emL_ok (kds_R h.rt) h.al h.lk L.length (Nat.le_refl _) _ (List.mem_of_getElem? (EE_at (Nat.le_refl _) hj))
theorem PtR.kids {gs : GL} {now : List Em} {L : List Nd} (h : PtR gs now L) {k : Nat} {n : Nd} (hn : L[k]? = some n) : ∀ e ∈ emS (EE (lkE gs now) L) ((run L k).take (arN n.op)), OkE e := fun e he => by
  have hlt := (List.getElem?_eq_some_iff.1 hn).1
  rw [kdR_of hn] at he
  obtain ⟨j, hj, rfl⟩ := List.mem_map.1 he
  have := (kds_R h.rt).lt k j hlt hj
  exact h.ee (by omega)
theorem PtR.klen {gs : GL} {now : List Em} {L : List Nd} (h : PtR gs now L) {k : Nat} {n : Nd} (hn : L[k]? = some n) : (emS (EE (lkE gs now) L) ((run L k).take (arN n.op))).length = arN n.op := by
  have hlt := (List.getElem?_eq_some_iff.1 hn).1
  have ho := (er_ok hn (h.rt.each k hlt)).ar
  rw [emS_len, List.length_take]
  omega
theorem PtR.node {gs : GL} {now : List Em} {L : List Nd} (h : PtR gs now L) {k : Nat} {n : Nd} (hn : L[k]? = some n) (B : Nat) (Ar A : Option Addr) (cr c : Nat) (w : World) (hk : KnI w gs B Ar now) (hp : RdE w A (emS (EE (lkE gs now) L) ((run L k).take (arN n.op)))) : Calls Tryz.prog 37 #[.agg #[.map (some B), .slice Ar now.length cr], ndG n, .slice A (arN n.op) c] w fun e w' => e = .returned (emG (EE (lkE gs now) L k)) ∧ Below w.heap.size w w' := by
  have hm := List.mem_of_getElem? hn
  rw [EE_step h.rt hn]
  exact node_any n B Ar A cr c _ (h.al n hm) (h.sz n hm) (h.fd n hm) (h.klen hn) (h.kids hn) w hk hp
def JK (gs : GL) (now : List Em) (Bm : Nat) (Ar : Option Addr) (Bk : Nat) (_k : Nat) (X : Nat → Prop) (w : World) : Prop := (∀ b, ¬ X b) ∧ KnI w gs Bm Ar now ∧ Bm < Bk ∧ ∀ g o, Ar = some ⟨g, o, none⟩ → g < Bk
theorem see_of {gs : GL} {now : List Em} {L : List Nd} (h : PtR gs now L) (Bm : Nat) (Ar : Option Addr) (cr Bc Bk : Nat) : See9 L 37 #[.agg #[.map (some Bm), .slice Ar now.length cr]] #[] (EE (lkE gs now) L) Bc Bk (JK gs now Bm Ar Bk) where
  kept := fun k X w w' hj hz hb => ⟨hj.1, hj.2.1.same hz (hb _ (.inl hj.2.2.1)) (fun g o e => hb _ (.inl (hj.2.2.2 g o e))), hj.2.2⟩
  far := fun k X w hj b hb => absurd hb (hj.1 b)
  call := fun k X w A c n hj hB hn hp _ => by
    refine (h.node hn Bm Ar A cr c w hj.2.1 hp).mono ?_
    rintro e w' ⟨rfl, hb⟩
    exact ⟨rfl, X, ⟨hj.1, hj.2.1.later hb, hj.2.2⟩, kp_of_below hb, fun b q => .inl q⟩
structure O2 (w W : World) (m s : Value) : Prop where
  b : Below w.heap.size w W
  k : KX W w.heap.size m s
  z : EX W (w.heap.size + 1) e0
theorem O2.start (w : World) (m s : Value) : O2 w ((w.alloc (.cells #[m, s] 48)).alloc (emO e0)) m s := by
  have s1 := World.size_alloc w (.cells #[m, s] 48)
  refine ⟨((Below.refl _ _).alloc (Nat.le_refl _) _).alloc (by omega) _, (KX.new w m s).below (below_box _ _), ?_⟩
  have h := EX.new (w.alloc (.cells #[m, s] 48)) e0; rw [s1] at h; exact h
theorem O2.later {w W W' : World} {m s : Value} (h : O2 w W m s) (hb : Below W.heap.size W W') : O2 w W' m s := ⟨h.b.trans (hb.mono h.b.size), h.k.below hb, h.z.below hb⟩
theorem O2.ret {w W : World} {m s : Value} (h : O2 w W m s) (f : Em) : EX (st4 W (w.heap.size + 1) f) (w.heap.size + 1) f ∧ Below w.heap.size w (st4 W (w.heap.size + 1) f) := ⟨h.z.all f, st4_below h.b (by omega) f⟩
theorem rde_lt {W : World} {A : Option Addr} {l : List Em} (h : RdE W A l) (hl : l ≠ []) : ∀ g o, A = some ⟨g, o, none⟩ → g < W.heap.size := fun g o e => by
  obtain ⟨g2, o2, e2, lt, _⟩ := h hl
  rw [e] at e2
  obtain ⟨rfl, _⟩ := Addr.mk.inj (Option.some.inj e2)
  exact lt
theorem enters_node (args : Array Value) (w : World) : (callFunc 37 args).run Tryz.prog w = .ok (.enter 37 args) w := enters_of Tryz.func37 (by kernel_rfl) rfl args w
theorem through_of {gs : GL} {now : List Em} {L : List Nd} (h : PtR gs now L) (B : Nat) (Ar Ap : Option Addr) (cr cp : Nat) (w : World) (hk : KnI w gs B Ar now) (hn : now ≠ []) (hL : RdN w Ap L) : Calls Tryz.prog 35 #[.slice Ap L.length cp, .func (.func 37) #[.agg #[.map (some B), .slice Ar now.length cr]] #[]] w fun e w' => e = .returned (emG (EE (lkE gs now) L (L.length - 1))) ∧ Below w.heap.size w w' := by
  refine (through9_any L 37 _ _ _ _ Ap cp w.heap.size h.rt w (Nat.le_refl _) hL ?_ enters_node (see_of h B Ar cr _ _) (fun _ => False) ⟨fun _ q => q, hk, hk.m.lt, rde_lt hk.r hn⟩ (fun _ q => q.elim)).mono ?_
  · rintro a rfl
    have hne : L ≠ [] := by rintro rfl; have := h.rt.one; simp [run] at this
    obtain ⟨g, o, e, lt, _⟩ := hL hne
    obtain rfl := Option.some.inj e
    exact lt
  · rintro e w' ⟨rfl, hb, _⟩
    exact ⟨rfl, hb⟩
set_option maxRecDepth 100000 in
set_option maxHeartbeats 8000000 in
/-- What is known of a pattern. -/
theorem of_any {gs : GL} {now : List Em} {L : List Nd} (h : PtR gs now L) (B : Nat) (Ar Ap : Option Addr) (cr cp : Nat) (w : World) (hk : KnI w gs B Ar now) (hn : now ≠ []) (hL : RdN w Ap L) : Calls Tryz.prog 23 #[.agg #[.map (some B), .slice Ar now.length cr], .slice Ap L.length cp] w fun e w' => e = .returned (emG (EE (lkE gs now) L (L.length - 1))) ∧ Below w.heap.size w w' := by
  have HA := (show Hid (O2 w ((w.alloc (.cells #[.map (some B), .slice Ar now.length cr] 48)).alloc (.cells #[.bool false, .bool false, .int .i64 0, .int .i64 0] 33)) (.map (some B)) (.slice Ar now.length cr)) from O2.start w _ _)
  obtain ⟨w1, hw1⟩ : ∃ w1, w1 = (w.alloc (.cells #[.map (some B), .slice Ar now.length cr] 48)).alloc (.cells #[.bool false, .bool false, .int .i64 0, .int .i64 0] 33) := ⟨_, rfl⟩
  have HE1 := (show Hid ((w.alloc (.cells #[.map (some B), .slice Ar now.length cr] 48)).alloc (.cells #[.bool false, .bool false, .int .i64 0, .int .i64 0] 33) = w1) from hw1.symm)
  rw [← hw1] at HA
  have q0 := HA.out.k.c0
  have q1 := HA.out.k.c1
  obtain ⟨⟨en, ec, el, em⟩, hE⟩ : ∃ e, e = EE (lkE gs now) L (L.length - 1) := ⟨_, rfl⟩
  have HT := (show Hid (Calls Tryz.prog 35 #[.slice Ap L.length cp, .func (.func 37) #[.agg #[.map (some B), .slice Ar now.length cr]] #[]] w1 fun e w' => e = .returned (.agg #[.bool en, .bool ec, .int .i64 el, .int .i64 em]) ∧ Below w1.heap.size w1 w') from by
    have t := through_of h B Ar Ap cr cp w1 (hk.later HA.out.b) hn (hL.below HA.out.b (Nat.le_refl _))
    rw [← hE] at t
    exact t)
  have HEE := (show Hid _ from hE)
  rw [← hE]
  clear hw1 h hk hn hL hE
  go_enter Tryz.func23, Tryz.ntmps23
  go_wp2_with (rw [HE1.out])
  refine HT.out.mono ?_
  rintro e w2 ⟨rfl, b2⟩
  have HA2 := (show Hid (O2 w w2 _ _) from HA.out.later b2)
  have f0 := HA2.out.z.fz 0
  have f1 := HA2.out.z.fz 1
  have f2 := HA2.out.z.fz 2
  have f3 := HA2.out.z.fz 3
  have z0 : w2.cell? ⟨w.heap.size + 1, 0, none⟩ = some (.bool false) := HA2.out.z.eb.c0
  have z1 : w2.cell? ⟨w.heap.size + 1, 1, none⟩ = some (.bool false) := HA2.out.z.eb.c1
  have z2 : w2.cell? ⟨w.heap.size + 1, 2, none⟩ = some (.int .i64 0) := HA2.out.z.eb.c2
  have z3 : w2.cell? ⟨w.heap.size + 1, 3, none⟩ = some (.int .i64 0) := HA2.out.z.eb.c3
  have HZ := (show Hid _ from HA2.out.ret ⟨en, ec, el, em⟩)
  clear HA HA2 b2 HT q0 q1
  go_wp2_with fail
  refine ret_ex (s := 4) (k := w.heap.size + 1) (by rfl) (by rfl) (by rfl) HZ.out.1 ?_
  exact ⟨rfl, HZ.out.2⟩
end Go.Proofs.YtokfgoepnfjafaaGreat.N

namespace Go.Proofs.YtokfgoepnfjafaaGreat.N
open Go.RowKit Go.Maps
open Go.Proofs.YtokfgoepnfjafaaGreat.T
def eqB (a b : Em) : Bool := (a.nu == b.nu) && ((a.cf == b.cf) && ((a.le == b.le) && (a.mo == b.mo)))
theorem eqB_iff {a b : Em} : eqB a b = true ↔ a = b := by
  obtain ⟨a1, a2, a3, a4⟩ := a
  obtain ⟨b1, b2, b3, b4⟩ := b
  unfold eqB
  simp only [Bool.and_eq_true, beq_iff_eq, Em.mk.injEq]
set_option maxRecDepth 100000 in
set_option maxHeartbeats 4000000 in
theorem em_neq (a b : Em) (W : World) : (binOp .neq 33 (emG a) (emG b)).run Tryz.prog W = .ok (.bool (!eqB a b)) W := by
  have hp : Tryz.prog.stoodInHeld 33 = false := by kernel_rfl
  obtain ⟨a1, a2, a3, a4⟩ := a
  obtain ⟨b1, b2, b3, b4⟩ := b
  unfold eqB
  cases hc : (a3 == b3)
  · cases a1 <;> cases b1 <;> cases a2 <;> cases b2 <;> simp [go_sem, Tryz.underlying33, Tryz.underlying3, Tryz.underlying4, Tryz.isAgg3, Tryz.isAgg4, hp, hc]
  cases hd : (a4 == b4)
  · cases a1 <;> cases b1 <;> cases a2 <;> cases b2 <;> simp [go_sem, Tryz.underlying33, Tryz.underlying3, Tryz.underlying4, Tryz.isAgg3, Tryz.isAgg4, hp, hc, hd]
  cases a1 <;> cases b1 <;> cases a2 <;> cases b2 <;> simp [go_sem, Tryz.underlying33, Tryz.underlying3, Tryz.underlying4, Tryz.isAgg3, Tryz.isAgg4, hp, hc, hd]
set_option maxRecDepth 100000 in
set_option maxHeartbeats 8000000 in
theorem equalE_any (l1 l2 : List Em) (A1 A2 : Option Addr) (c1 c2 : Nat) (hl : l1.length ≤ 140737488355328) (he : l2.length = l1.length) (w : World) (h1 : RdE w A1 l1) (h2 : RdE w A2 l2) :
    Calls Tryz.prog 30 #[.slice A1 l1.length c1, .slice A2 l2.length c2] w fun e w' => (∃ b, e = .returned (.bool b) ∧ (b = true ↔ l1 = l2)) ∧ ∃ m, w' = w.drewN m := by
  have H1 := (show Hid _ from h1)
  have H2 := (show Hid _ from h2)
  have HG := (show Hid (∀ k, k < l1.length → ∃ a b, l1[k]? = some a ∧ l2[k]? = some b ∧ l1 ≠ [] ∧ l2 ≠ []) from fun k hk => ⟨_, _, List.getElem?_eq_getElem hk, List.getElem?_eq_getElem (by omega), by rintro rfl; simp at hk, fun e => by rw [e] at he; have h : (0 : Nat) = l1.length := he; omega⟩)
  have HL := (show Hid (l2.length = l1.length) from he)
  rw [he]
  clear h1 h2 he
  go_enter Tryz.func30, Tryz.ntmps30
  go_wp2_with fail
  go_loopw [13] (fun t wr => ∃ k : Nat, k ≤ l1.length ∧ t = .int .i64 k ∧ Hid ((∃ m, wr = w.drewN m) ∧ l1.take k = l2.take k)) (fun t _ => l1.length - (intOf t).toNat)
  case atStart => exact ⟨0, by omega, by go_num, ⟨0, rfl⟩, by rw [List.take_zero, List.take_zero]⟩
  case round =>
    obtain ⟨k, hk, rfl, HW⟩ := hrel
    by_cases hlt : k < l1.length
    · obtain ⟨a, b, hn1, hn2, nl1, nl2⟩ := HG.out k hlt
      have hB : Below w.heap.size w wr := by obtain ⟨⟨m, rfl⟩, _⟩ := HW.out; exact below_drewN (Below.refl _ _) _
      obtain ⟨g1, o1, rfl, i1, q1⟩ := H1.out nl1
      obtain ⟨g2, o2, rfl, i2, q2⟩ := H2.out nl2
      obtain ⟨a0, a1, a2, a3⟩ := (q1 k a hn1).same (hB.block g1 i1)
      obtain ⟨d0, d1, d2, d3⟩ := (q2 k b hn2).same (hB.block g2 i2)
      have z0 : (0 : Int) ≤ (k : Int) := by omega
      have z1 : (k : Int) < (l1.length : Int) := by omega
      have HN := (show Hid (l1[k]? = some a ∧ l2[k]? = some b) from ⟨hn1, hn2⟩)
      clear HG H1 H2 q1 q2 nl1 nl2 hn1 hn2 hB
      have hneq := em_neq a b
      by_cases hab : a = b
      · rw [eqB_iff.2 hab] at hneq
        have HT := (show Hid (l1.take (k + 1) = l2.take (k + 1)) from by
          show List.take _ _ = _
          rw [List.take_add_one, List.take_add_one, HN.out.1, HN.out.2, HW.out.2, hab])
        clear hab
        simp only [emG] at hneq
        go_wp2_with fail
        go_quiet (fail)
        have HW2 := (show Hid ((∃ m, wr.drewN nq = w.drewN m) ∧ l1.take (k + 1) = l2.take (k + 1)) from ⟨by obtain ⟨⟨m, e⟩, _⟩ := HW.out; exact ⟨m + nq, by rw [e, World.drewN_drewN]⟩, HT.out⟩)
        generalize wr.drewN nq = w2 at *
        clear hneq a0 a1 a2 a3 d0 d1 d2 d3 HW
        go_wp2_with fail
        go_roundw
        case rel => exact ⟨k + 1, by omega, by go_num, HW2⟩
        case measure => simp [intOf]; omega
      · have hf : eqB a b = false := by
          cases q : eqB a b
          · rfl
          · exact absurd (eqB_iff.1 q) hab
        rw [hf] at hneq
        have HT := (show Hid (l1 ≠ l2) from fun e => hab (Option.some.inj (by rw [← HN.out.1, ← HN.out.2, e])))
        clear hab hf
        simp only [emG] at hneq
        go_wp2_with fail
        go_quiet (fail)
        have HW2 := (show Hid (∃ m, wr.drewN nq = w.drewN m) from by obtain ⟨⟨m, e⟩, _⟩ := HW.out; exact ⟨m + nq, by rw [e, World.drewN_drewN]⟩)
        generalize wr.drewN nq = w2 at *
        clear hneq a0 a1 a2 a3 d0 d1 d2 d3 HW
        go_wp2_with fail
        go_ret
        exact ⟨⟨false, rfl, ⟨fun q => (by cases q), fun q => absurd q HT.out⟩⟩, HW2.out⟩
    · obtain rfl : k = l1.length := by omega
      clear HG H1 H2
      go_wp2_with fail
      go_ret
      refine ⟨⟨true, rfl, ⟨fun _ => ?_, fun _ => rfl⟩⟩, HW.out.1⟩
      have h := HW.out.2
      rw [List.take_length] at h
      rw [h, ← HL.out, List.take_length]
end Go.Proofs.YtokfgoepnfjafaaGreat.N

namespace Go.Proofs.YtokfgoepnfjafaaGreat.N
open Go.RowKit Go.Maps
open Go.Proofs.YtokfgoepnfjafaaGreat.T
/-- A grammar that can be read, of a size that can be. -/
structure GI (W : World) (A : Option Addr) (gs : GL) : Prop where
  d : GrD W A gs
  l : gs.length ≤ 140737488355328
  t : ∀ g ∈ gs, g.1.size ≤ 140737488355328 ∧ g.2.length ≤ 140737488355328 ∧ ∀ n ∈ g.2, n.tx.size ≤ 140737488355328
theorem GI.later {W W' : World} {A : Option Addr} {gs : GL} (h : GI W A gs) (hb : Below W.heap.size W W') : GI W' A gs := ⟨h.d.later hb, h.l, h.t⟩
theorem GrIn.gi {W : World} {A : Option Addr} {c : Nat} {gs : GL} (h : GrIn W A c gs) : GI W A gs := ⟨h.d, by have := h.len; omega, h.tx⟩
theorem unG_zero {gs : GL} : ∀ (l : GL) (i : Nat), (unG gs i l).2 = 0 → unG gs i l = ((0, 0), 0) := by
  intro l
  induction l with
  | nil => intro i _; rfl
  | cons g l ih =>
    intro i h
    rw [unG_cons] at h ⊢
    cases q : unN gs 0 g.2 with
    | some k => rw [q] at h; exact absurd h (show (81 : Int) ≠ 0 by decide)
    | none => rw [q] at h; exact ih _ h
theorem ckG_zero {gs : GL} (h : (ckG gs).2 = 0) : ckG gs = ((0, 0), 0) := by
  unfold ckG at h ⊢
  by_cases h0 : gs.length = 0
  · rw [if_pos h0] at h; exact absurd h (by decide)
  · rw [if_neg h0] at h ⊢
    by_cases h2 : 200 < gs.length
    · rw [if_pos h2] at h; exact absurd h (by decide)
    · rw [if_neg h2] at h ⊢
      by_cases h3 : (c1G gs 0 0 gs).2 ≠ 0
      · rw [if_pos h3] at h; exact absurd h h3
      · rw [if_neg h3] at h ⊢; exact unG_zero _ _ h
theorem NuV.form {w w' : World} {gs : GL} {e : Ending} (h : NuV w w' gs e) : ∃ mv, e = .returned (.tuple #[mv, .agg #[.int .i64 (ckG gs).1.1, .int .i64 (ckG gs).1.2], .int .i64 (ckG gs).2]) ∧ ((ckG gs).2 = 0 → ∃ B, w.heap.size ≤ B ∧ mv = .map (some B) ∧ NmM w' B gs) := by
  rcases h with ⟨h1, h2⟩ | ⟨h1, B, h2, h3, h4⟩
  · exact ⟨_, h2, fun q => absurd q h1⟩
  · refine ⟨.map (some B), ?_, fun _ => ⟨B, h2, rfl, h4⟩⟩
    rw [ckG_zero h1]; exact h3
end Go.Proofs.YtokfgoepnfjafaaGreat.N

namespace Go.Proofs.YtokfgoepnfjafaaGreat.N
open Go.RowKit Go.Maps
open Go.Proofs.YtokfgoepnfjafaaGreat.T
def fdN (gs : GL) (s : ByteArray) : Int := match fdG gs s with
  | some i => (i : Int)
  | none => -1
theorem fdN_some {gs : GL} {s : ByteArray} {i : Nat} (h : fdG gs s = some i) : fdN gs s = (i : Int) := by unfold fdN; rw [h]
theorem fdN_none {gs : GL} {s : ByteArray} (h : fdG gs s = none) : fdN gs s = -1 := by unfold fdN; rw [h]
set_option maxRecDepth 100000 in
set_option maxHeartbeats 4000000 in
theorem find_any (gs : GL) (A : Option Addr) (c : Nat) (s : ByteArray) (w : World) (hp : GI w A gs) :
    Calls Tryz.prog 32 #[.agg #[.slice A gs.length c], .string s] w fun e w' => e = .returned (.int .i64 (fdN gs s)) ∧ Below w.heap.size w w' := by
  have HP := (show Hid (GrD w A gs) from hp.d)
  have hl := hp.l
  have HB1 := (show Hid (Below w.heap.size w (w.alloc (.cells #[.slice A gs.length c] 24))) from below_box _ _)
  have HG1 := (show Hid (GX (w.alloc (.cells #[.slice A gs.length c] 24)) w.heap.size (.slice A gs.length c)) from GX.mk (heap_alloc_new w _))
  clear hp
  go_enter Tryz.func32, Tryz.ntmps32
  go_wp2_with fail
  generalize w.alloc (.cells #[.slice A gs.length c] 24) = w1 at *
  have q1 := HG1.out.cl
  clear HG1
  go_loopw [5] (fun t wr => ∃ k : Nat, k ≤ gs.length ∧ t = .int .i64 k ∧ wr = w1 ∧ Hid (∀ j g, j < k → gs[j]? = some g → g.1 ≠ s)) (fun t _ => gs.length - (intOf t).toNat)
  case atStart => exact ⟨0, by omega, by go_num, rfl, fun j g h => by omega⟩
  case round =>
    obtain ⟨k, hk, rfl, rfl, HX⟩ := hrel
    by_cases hlt : k < gs.length
    · obtain ⟨g, hg⟩ : ∃ g, gs[k]? = some g := ⟨_, List.getElem?_eq_getElem hlt⟩
      obtain ⟨b, o, A2, c2, rfl, lb, x0, x1, r2⟩ := HP.out k g hg
      have x0' := (HB1.out.cell (p := ⟨b, o + k * 2, none⟩) lb).trans x0
      have z0 : (0 : Int) ≤ (k : Int) := by omega
      have z1 : (k : Int) < (gs.length : Int) := by omega
      clear x0 x1 r2 HP
      by_cases e : g.1 = s
      · have te : (g.1.toList == s.toList) = true := by rw [e]; simp
        have HE := (show Hid (fdN gs s = (k : Int)) from fdN_some (fdG_of hg e (fun j h hj hj2 => HX.out j h hj hj2)))
        clear HX hg e
        go_wp2_with fail
        go_ret
        exact ⟨by rw [HE.out]; rfl, HB1.out⟩
      · have te : (g.1.toList == s.toList) = false := by
          cases q : g.1.toList == s.toList
          · rfl
          · exact absurd (tx_ext (by simpa using q)) e
        have HX2 := (show Hid (∀ j g, j < k + 1 → gs[j]? = some g → g.1 ≠ s) from fun j h hj hj2 => by
          by_cases q : j = k
          · subst q; rw [hg] at hj2; cases hj2; exact e
          · exact HX.out j h (by omega) hj2)
        clear HX hg e
        go_wp2_with fail
        go_roundw
        case rel => exact ⟨k + 1, by omega, by go_num, by first | rfl | trivial, HX2⟩
        case measure => simp [intOf]; omega
    · obtain rfl : k = gs.length := by omega
      have HE := (show Hid (fdN gs s = -1) from fdN_none (fdG_none.2 fun g hg => by
        obtain ⟨j, hj, rfl⟩ := List.mem_iff_getElem.1 hg
        exact HX.out j _ hj (List.getElem?_eq_getElem hj)))
      clear HX HP
      go_wp2_with fail
      go_ret
      exact ⟨by rw [HE.out]; rfl, HB1.out⟩
end Go.Proofs.YtokfgoepnfjafaaGreat.N

namespace Go.Proofs.YtokfgoepnfjafaaGreat.N
open Go.RowKit Go.Maps
open Go.Proofs.YtokfgoepnfjafaaGreat.T
theorem tw_fd {gs : GL} {k : Nat} {g : ByteArray × List Nd} (hg : gs[k]? = some g) : tw gs g.1 k = true ↔ fdN gs g.1 < (k : Int) := by
  unfold tw fdN
  cases h : fdG gs g.1 with
  | some i => simp
  | none => exact absurd rfl (fdG_none.1 h g (List.mem_of_getElem? hg))
/-- The boxes of a grammar and of a spot. -/
structure DcS (w wr : World) (u : Value) : Prop where
  b : Below w.heap.size w wr
  x : GX wr w.heap.size u
  s : SX wr (w.heap.size + 1) 0 0
theorem DcS.later {w wr W' : World} {u : Value} (h : DcS w wr u) (hb : Below wr.heap.size wr W') : DcS w W' u := ⟨h.b.trans (hb.mono h.b.size), h.x.below hb, h.s.below hb⟩
set_option maxRecDepth 100000 in
set_option maxHeartbeats 32000000 in
theorem checkD_any (gs : GL) (A : Option Addr) (c : Nat) (w : World) (hp : GI w A gs) :
    Calls Tryz.prog 18 #[.agg #[.slice A gs.length c]] w fun e w' => e = .returned (.tuple #[.agg #[.int .i64 (ckG gs).1.1, .int .i64 (ckG gs).1.2], .int .i64 (ckG gs).2]) ∧ Below w.heap.size w w' := by
  obtain ⟨w1, hw1⟩ : ∃ w1, w1 = (w.alloc (.cells #[.slice A gs.length c] 24)).alloc (.cells #[.int .i64 0, .int .i64 0] 52) := ⟨_, rfl⟩
  have HS : Hid (DcS w w1 (.slice A gs.length c)) := by
    show DcS _ _ _
    rw [hw1]
    exact ⟨((Below.refl _ _).alloc (Nat.le_refl _) _).alloc (by rw [World.size_alloc]; omega) _, (GX.mk (heap_alloc_new w _)).below (below_box _ _), ⟨by have h := heap_alloc_new (w.alloc (.cells #[.slice A gs.length c] 24)) (.cells #[.int .i64 0, .int .i64 0] 52); rw [World.size_alloc] at h; exact h⟩⟩
  have q1 := HS.out.x.cl
  have hl := hp.l
  by_cases h0 : gs.length = 0
  · have HF := (show Hid (ckG gs = ((0, 0), 3)) from by show ckG gs = _; unfold ckG; rw [if_pos h0])
    have t0 : ((gs.length : Int) == 0) = true := beq_iff_eq.2 (by omega)
    have HBz := (show Hid (Below w.heap.size w w1) from HS.out.b)
    have c0 := HS.out.s.c0
    have c1 := HS.out.s.c1
    have f0 := HS.out.s.fz 0
    have f1 := HS.out.s.fz 1
    clear h0 hp HS
    go_enter Tryz.func18, Tryz.ntmps18
    go_wp2_with fail
    rw [← hw1]
    go_wp2_with fail
    refine bodyPost_ret (v := .tuple #[.agg #[.int .i64 0, .int .i64 0], .int .i64 3]) (by simp [results, Tryz.results18, go_sem, c0, c1]) rfl ⟨by rw [HF.out]; try rfl, HBz.out⟩
  have t0 : ((gs.length : Int) == 0) = false := beq_eq_false_iff_ne.2 (by omega)
  by_cases h2 : 200 < gs.length
  · have HF := (show Hid (ckG gs = ((0, 0), 2)) from by show ckG gs = _; unfold ckG; rw [if_neg h0, if_pos h2])
    have t2 : (200 : Int) < (gs.length : Int) := by omega
    have HBz := (show Hid (Below w.heap.size w w1) from HS.out.b)
    have c0 := HS.out.s.c0
    have c1 := HS.out.s.c1
    have f0 := HS.out.s.fz 0
    have f1 := HS.out.s.fz 1
    clear h0 hp h2 HS
    go_enter Tryz.func18, Tryz.ntmps18
    go_wp2_with fail
    rw [← hw1]
    go_wp2_with fail
    refine bodyPost_ret (v := .tuple #[.agg #[.int .i64 0, .int .i64 0], .int .i64 2]) (by simp [results, Tryz.results18, go_sem, c0, c1]) rfl ⟨by rw [HF.out]; try rfl, HBz.out⟩
  have t2 : ¬ (200 : Int) < (gs.length : Int) := by omega
  have hl200 : gs.length ≤ 200 := by omega
  have HE := (show Hid (∀ r, c1G gs 0 0 gs = r → r.2 ≠ 0 → ckG gs = r) from ckG_err h0 h2)
  have HEu := (show Hid (c1G gs 0 0 gs = ((0, 0), 0) → ckG gs = unG gs 0 gs) from ckG_un h0 h2)
  have HP := (show Hid (GI w A gs) from hp)
  have HG := (show Hid (∀ k, k < gs.length → ∃ g, gs[k]? = some g ∧ g.1.size ≤ 140737488355328 ∧ g.2.length ≤ 140737488355328 ∧ (∀ n ∈ g.2, n.tx.size ≤ 140737488355328) ∧ gs.drop k = g :: gs.drop (k + 1)) from fun k hk => ⟨_, List.getElem?_eq_getElem hk, (hp.t _ (List.getElem_mem hk)).1, (hp.t _ (List.getElem_mem hk)).2.1, (hp.t _ (List.getElem_mem hk)).2.2, List.drop_eq_getElem_cons hk⟩)
  clear h0 hp h2
  go_enter Tryz.func18, Tryz.ntmps18
  go_wp2_with fail
  rw [← hw1]
  clear hw1
  go_wp2_with fail
  clear q1
  go_loopw [4, 5] (fun v t wr => ∃ k m : Nat, k ≤ gs.length ∧ t = .int .i64 k ∧ v = .int .i64 m ∧ m ≤ 2048 ∧ Hid (c1G gs 0 0 gs = c1G gs k m (gs.drop k)) ∧ Hid (DcS w wr (.slice A gs.length c))) (fun _ t _ => gs.length - (intOf t).toNat)
  case atStart => exact ⟨0, 0, by omega, by go_num, by go_num, by omega, rfl, HS⟩
  case round =>
    obtain ⟨k, m, hk, rfl, rfl, hm, HX0, HW⟩ := hrel
    clear HS
    have q1 := HW.out.x.cl
    by_cases hlt : k < gs.length
    · obtain ⟨g, hg, s1, s2, s3, hd⟩ := HG.out k hlt
      obtain ⟨b, o, A2, c2, rfl, lb, x0, x1, r2⟩ := HP.out.d k g hg
      have x0' := (HW.out.b.cell (p := ⟨b, o + k * 2, none⟩) lb).trans x0
      have x1' := (HW.out.b.cell (p := ⟨b, o + k * 2 + 1, none⟩) lb).trans x1
      clear x0 x1
      have z0 : (0 : Int) ≤ (k : Int) := by omega
      have z1 : (k : Int) < (gs.length : Int) := by omega
      have HR0 := (show Hid (RB (wr.alloc (.cells #[.string g.1, .slice A2 g.2.length c2] 45)) wr.heap.size g.1 (.slice A2 g.2.length c2)) from ⟨heap_alloc_new wr _⟩)
      have HS0 := (show Hid (DcS w (wr.alloc (.cells #[.string g.1, .slice A2 g.2.length c2] 45)) (.slice (some ⟨b, o, none⟩) gs.length c)) from HW.out.later (below_box _ _))
      have HNm : Hid (∀ W, Calls Tryz.prog 31 #[.string g.1] W fun e W' => e = .returned (.bool (nmB g.1)) ∧ W' = W) := fun W => nameR_any g.1 s1 W
      have HFi : Hid (∀ W, Below w.heap.size w W → Calls Tryz.prog 32 #[.agg #[.slice (some ⟨b, o, none⟩) gs.length c], .string g.1] W fun e w' => e = .returned (.int .i64 (fdN gs g.1)) ∧ Below W.heap.size W w') := fun W hW => find_any gs (some ⟨b, o, none⟩) c g.1 W (HP.out.later hW)
      have HCk : Hid (∀ W, Below w.heap.size w W → Calls Tryz.prog 24 #[.slice A2 g.2.length c2] W fun e w' => e = .returned (.tuple #[.int .i64 (ck g.2).1, .int .i64 (ck g.2).2]) ∧ Below W.heap.size W w') := fun W hW => checkR_any g.2 A2 c2 s2 s3 W (r2.below hW (Nat.le_refl _))
      have hgk := hg
      have HX1 := (show Hid (c1G gs 0 0 gs = if ¬ (nmB g.1 = true ∨ (g.1.size = 0 ∧ gs.length = 1)) then ((k, 0), 6) else if tw gs g.1 k = true then ((k, 0), 80) else if (ck g.2).2 ≠ 0 then ((k, (ck g.2).1), (ck g.2).2) else if 2048 < m + g.2.length then ((k, 0), 2) else c1G gs (k + 1) (m + g.2.length) (gs.drop (k + 1))) from by show c1G gs 0 0 gs = _; rw [HX0.out, hd, c1G])
      clear hg r2 s2 s3 HW HX0 hd s1
      have q3 := HS0.out.x.cl
      have q4 := HR0.out.c0
      cases hnb : nmB g.1
      · rw [hnb] at HNm
        by_cases hs0 : g.1.size = 0
        · have te : (g.1.toList == []) = true := by
            have e := emp_t hs0
            rw [List.isEmpty_iff] at e
            rw [e]; rfl
          have te2 := emp_t hs0
          by_cases hl1 : gs.length = 1
          · have tl : ((gs.length : Int) == 1) = true := beq_iff_eq.2 (by omega)
            have HX := (show Hid (c1G gs 0 0 gs = if tw gs g.1 k = true then ((k, 0), 80) else if (ck g.2).2 ≠ 0 then ((k, (ck g.2).1), (ck g.2).2) else if 2048 < m + g.2.length then ((k, 0), 2) else c1G gs (k + 1) (m + g.2.length) (gs.drop (k + 1))) from by show c1G gs 0 0 gs = _; rw [HX1.out, if_neg (fun q => q (.inr ⟨hs0, hl1⟩))])
            clear HX1 hl1 hs0 hnb HEu
            go_wp2_with fail
            refine (HNm.out _).mono ?_
            rintro e wX ⟨rfl, rfl⟩
            have HS := HS0
            have HR := HR0
            clear HNm HR0 HS0
            go_wp2_with fail
            refine (HFi.out _ HS.out.b).mono ?_
            rintro e w4 ⟨rfl, b4⟩
            have HS4 := (show Hid (DcS w w4 (.slice (some ⟨b, o, none⟩) gs.length c)) from HS.out.later b4)
            have HR4 := (show Hid (RB w4 wr.heap.size g.1 (.slice A2 g.2.length c2)) from HR.out.later b4)
            have y1 := HR4.out.c1
            clear HFi b4 HS HR
            have HS := HS4
            clear HS4
            by_cases htw : tw gs g.1 k = true
            · have HF := (show Hid (ckG gs = ((k, 0), 80)) from HE.out _ (by rw [HX.out, if_pos htw]) (by show (80 : Int) ≠ 0; decide))
              have tt : fdN gs g.1 < (k : Int) := (tw_fd hgk).1 htw
              clear HX HE HCk HR4 HG HP htw hgk y1
              have HZ := (show Hid (SX ((w4.setCell ⟨w.heap.size + 1, 0, none⟩ (.int .i64 (k : Int))).setCell ⟨w.heap.size + 1, 1, none⟩ (.int .i64 0)) (w.heap.size + 1) (k : Int) 0) from HS.out.s.set _ _)
              have HBz := (show Hid (Below w.heap.size w ((w4.setCell ⟨w.heap.size + 1, 0, none⟩ (.int .i64 (k : Int))).setCell ⟨w.heap.size + 1, 1, none⟩ (.int .i64 0))) from set_below (set_below HS.out.b (Nat.le_succ _)) (Nat.le_succ _))
              have c0 := HS.out.s.c0
              have c1 := HS.out.s.c1
              have f0 := HS.out.s.fz 0
              have f1 := HS.out.s.fz 1
              clear HS
              go_wp2_with fail
              have d0 := HZ.out.c0
              have d1 := HZ.out.c1
              clear c0 c1 f0 f1
              generalize (w4.setCell ⟨w.heap.size + 1, 0, none⟩ (.int .i64 (k : Int))).setCell ⟨w.heap.size + 1, 1, none⟩ (.int .i64 0) = wZ at *
              refine bodyPost_ret (v := .tuple #[.agg #[.int .i64 (k : Int), .int .i64 0], .int .i64 80]) (by simp [results, Tryz.results18, go_sem, d0, d1]) rfl ⟨by rw [HF.out]; try rfl, HBz.out⟩
            · have tt : ¬ fdN gs g.1 < (k : Int) := fun q => htw ((tw_fd hgk).2 q)
              have HX2 := (show Hid (c1G gs 0 0 gs = if (ck g.2).2 ≠ 0 then ((k, (ck g.2).1), (ck g.2).2) else if 2048 < m + g.2.length then ((k, 0), 2) else c1G gs (k + 1) (m + g.2.length) (gs.drop (k + 1))) from by show c1G gs 0 0 gs = _; rw [HX.out, if_neg htw])
              clear HX htw hgk
              go_wp2_with fail
              refine (HCk.out _ HS.out.b).mono ?_
              rintro e w5 ⟨rfl, b5⟩
              have HS5 := (show Hid (DcS w w5 (.slice (some ⟨b, o, none⟩) gs.length c)) from HS.out.later b5)
              have y1' := (HR4.out.later b5).c1
              clear HCk b5 HS HR4 y1 tt
              have HS := HS5
              clear HS5
              by_cases hc : (ck g.2).2 = 0
              · have tc : ((ck g.2).2 != 0) = false := by rw [hc]; rfl
                have hg3 : g.2.length ≤ 2048 := by
                  by_cases q : g.2.length ≤ 2048
                  · exact q
                  · have := ck_long (L := g.2) (by omega)
                    rw [this] at hc
                    exact absurd hc (by decide)
                have HV := (show Hid (c1G gs 0 0 gs = if 2048 < m + g.2.length then ((k, 0), 2) else c1G gs (k + 1) (m + g.2.length) (gs.drop (k + 1))) from by show c1G gs 0 0 gs = _; rw [HX2.out, if_neg (by rw [hc]; simp)])
                generalize hcc : (ck g.2).2 = cc2 at *
                clear hcc HX2
                by_cases hn : 2048 < m + g.2.length
                · have HF := (show Hid (ckG gs = ((k, 0), 2)) from HE.out _ (by rw [HV.out, if_pos hn]) (by show (2 : Int) ≠ 0; decide))
                  have tn : (2048 : Int) < (m : Int) + (g.2.length : Int) := by omega
                  clear HV HE HG HP hn
                  have HZ := (show Hid (SX ((w5.setCell ⟨w.heap.size + 1, 0, none⟩ (.int .i64 (k : Int))).setCell ⟨w.heap.size + 1, 1, none⟩ (.int .i64 0)) (w.heap.size + 1) (k : Int) 0) from HS.out.s.set _ _)
                  have HBz := (show Hid (Below w.heap.size w ((w5.setCell ⟨w.heap.size + 1, 0, none⟩ (.int .i64 (k : Int))).setCell ⟨w.heap.size + 1, 1, none⟩ (.int .i64 0))) from set_below (set_below HS.out.b (Nat.le_succ _)) (Nat.le_succ _))
                  have c0 := HS.out.s.c0
                  have c1 := HS.out.s.c1
                  have f0 := HS.out.s.fz 0
                  have f1 := HS.out.s.fz 1
                  clear HS
                  go_wp2_with fail
                  have d0 := HZ.out.c0
                  have d1 := HZ.out.c1
                  clear c0 c1 f0 f1
                  generalize (w5.setCell ⟨w.heap.size + 1, 0, none⟩ (.int .i64 (k : Int))).setCell ⟨w.heap.size + 1, 1, none⟩ (.int .i64 0) = wZ at *
                  refine bodyPost_ret (v := .tuple #[.agg #[.int .i64 (k : Int), .int .i64 0], .int .i64 2]) (by simp [results, Tryz.results18, go_sem, d0, d1]) rfl ⟨by rw [HF.out]; try rfl, HBz.out⟩
                · have HX3 := (show Hid (c1G gs 0 0 gs = c1G gs (k + 1) (m + g.2.length) (gs.drop (k + 1))) from by show c1G gs 0 0 gs = _; rw [HV.out, if_neg hn])
                  have tn : ¬ (2048 : Int) < (m : Int) + (g.2.length : Int) := by omega
                  clear HV
                  go_wp2_with fail
                  go_roundw
                  case rel => exact ⟨k + 1, m + g.2.length, by omega, by go_num, by go_num, by omega, HX3, HS⟩
                  case measure => simp [intOf]; omega
              · have tc : ((ck g.2).2 != 0) = true := by rw [bne, beq_eq_false_iff_ne.2 hc]; rfl
                have HF := (show Hid (ckG gs = ((k, (ck g.2).1), (ck g.2).2)) from HE.out _ (by rw [HX2.out, if_pos hc]) hc)
                clear HX2 HE HG HP hc
                generalize hcc : (ck g.2).2 = cc2 at *
                generalize hcd : (ck g.2).1 = cc1 at *
                clear hcc hcd
                have HZ := (show Hid (SX ((w5.setCell ⟨w.heap.size + 1, 0, none⟩ (.int .i64 (k : Int))).setCell ⟨w.heap.size + 1, 1, none⟩ (.int .i64 (cc1 : Int))) (w.heap.size + 1) (k : Int) (cc1 : Int)) from HS.out.s.set _ _)
                have HBz := (show Hid (Below w.heap.size w ((w5.setCell ⟨w.heap.size + 1, 0, none⟩ (.int .i64 (k : Int))).setCell ⟨w.heap.size + 1, 1, none⟩ (.int .i64 (cc1 : Int)))) from set_below (set_below HS.out.b (Nat.le_succ _)) (Nat.le_succ _))
                have c0 := HS.out.s.c0
                have c1 := HS.out.s.c1
                have f0 := HS.out.s.fz 0
                have f1 := HS.out.s.fz 1
                clear HS
                go_wp2_with fail
                have d0 := HZ.out.c0
                have d1 := HZ.out.c1
                clear c0 c1 f0 f1
                generalize (w5.setCell ⟨w.heap.size + 1, 0, none⟩ (.int .i64 (k : Int))).setCell ⟨w.heap.size + 1, 1, none⟩ (.int .i64 (cc1 : Int)) = wZ at *
                refine bodyPost_ret (v := .tuple #[.agg #[.int .i64 (k : Int), .int .i64 (cc1 : Int)], .int .i64 cc2]) (by simp [results, Tryz.results18, go_sem, d0, d1]) rfl ⟨by rw [HF.out]; try rfl, HBz.out⟩
          · have tl : ((gs.length : Int) == 1) = false := beq_eq_false_iff_ne.2 (by omega)
            have HF := (show Hid (ckG gs = ((k, 0), 6)) from HE.out _ (by rw [HX1.out, if_pos (by rintro (q | q); rw [hnb] at q; cases q; exact hl1 q.2)]) (by show (6 : Int) ≠ 0; decide))
            clear HX1 HE HG HP hl1 hs0 hgk HCk HEu HFi hnb
            go_wp2_with fail
            refine (HNm.out _).mono ?_
            rintro e wX ⟨rfl, rfl⟩
            have HS := HS0
            clear HNm HR0 HS0
            have HZ := (show Hid (SX (((wr.alloc (.cells #[.string g.1, .slice A2 g.2.length c2] 45)).setCell ⟨w.heap.size + 1, 0, none⟩ (.int .i64 (k : Int))).setCell ⟨w.heap.size + 1, 1, none⟩ (.int .i64 0)) (w.heap.size + 1) (k : Int) 0) from HS.out.s.set _ _)
            have HBz := (show Hid (Below w.heap.size w (((wr.alloc (.cells #[.string g.1, .slice A2 g.2.length c2] 45)).setCell ⟨w.heap.size + 1, 0, none⟩ (.int .i64 (k : Int))).setCell ⟨w.heap.size + 1, 1, none⟩ (.int .i64 0))) from set_below (set_below HS.out.b (Nat.le_succ _)) (Nat.le_succ _))
            have c0 := HS.out.s.c0
            have c1 := HS.out.s.c1
            have f0 := HS.out.s.fz 0
            have f1 := HS.out.s.fz 1
            clear HS
            go_wp2_with fail
            have d0 := HZ.out.c0
            have d1 := HZ.out.c1
            clear c0 c1 f0 f1
            generalize ((wr.alloc (.cells #[.string g.1, .slice A2 g.2.length c2] 45)).setCell ⟨w.heap.size + 1, 0, none⟩ (.int .i64 (k : Int))).setCell ⟨w.heap.size + 1, 1, none⟩ (.int .i64 0) = wZ at *
            refine bodyPost_ret (v := .tuple #[.agg #[.int .i64 (k : Int), .int .i64 0], .int .i64 6]) (by simp [results, Tryz.results18, go_sem, d0, d1]) rfl ⟨by rw [HF.out]; try rfl, HBz.out⟩
        · have te : (g.1.toList == []) = false := by
            have e := emp_f hs0
            cases hl : g.1.toList with
            | nil => rw [hl] at e; cases e
            | cons x r => rfl
          have te2 := emp_f hs0
          have HF := (show Hid (ckG gs = ((k, 0), 6)) from HE.out _ (by rw [HX1.out, if_pos (by rintro (q | q); rw [hnb] at q; cases q; exact hs0 q.1)]) (by show (6 : Int) ≠ 0; decide))
          clear HX1 HE HG HP hs0 hgk HCk HEu HFi hnb
          go_wp2_with fail
          refine (HNm.out _).mono ?_
          rintro e wX ⟨rfl, rfl⟩
          have HS := HS0
          clear HNm HR0 HS0
          have HZ := (show Hid (SX (((wr.alloc (.cells #[.string g.1, .slice A2 g.2.length c2] 45)).setCell ⟨w.heap.size + 1, 0, none⟩ (.int .i64 (k : Int))).setCell ⟨w.heap.size + 1, 1, none⟩ (.int .i64 0)) (w.heap.size + 1) (k : Int) 0) from HS.out.s.set _ _)
          have HBz := (show Hid (Below w.heap.size w (((wr.alloc (.cells #[.string g.1, .slice A2 g.2.length c2] 45)).setCell ⟨w.heap.size + 1, 0, none⟩ (.int .i64 (k : Int))).setCell ⟨w.heap.size + 1, 1, none⟩ (.int .i64 0))) from set_below (set_below HS.out.b (Nat.le_succ _)) (Nat.le_succ _))
          have c0 := HS.out.s.c0
          have c1 := HS.out.s.c1
          have f0 := HS.out.s.fz 0
          have f1 := HS.out.s.fz 1
          clear HS
          go_wp2_with fail
          have d0 := HZ.out.c0
          have d1 := HZ.out.c1
          clear c0 c1 f0 f1
          generalize ((wr.alloc (.cells #[.string g.1, .slice A2 g.2.length c2] 45)).setCell ⟨w.heap.size + 1, 0, none⟩ (.int .i64 (k : Int))).setCell ⟨w.heap.size + 1, 1, none⟩ (.int .i64 0) = wZ at *
          refine bodyPost_ret (v := .tuple #[.agg #[.int .i64 (k : Int), .int .i64 0], .int .i64 6]) (by simp [results, Tryz.results18, go_sem, d0, d1]) rfl ⟨by rw [HF.out]; try rfl, HBz.out⟩
      · rw [hnb] at HNm
        have HX := (show Hid (c1G gs 0 0 gs = if tw gs g.1 k = true then ((k, 0), 80) else if (ck g.2).2 ≠ 0 then ((k, (ck g.2).1), (ck g.2).2) else if 2048 < m + g.2.length then ((k, 0), 2) else c1G gs (k + 1) (m + g.2.length) (gs.drop (k + 1))) from by show c1G gs 0 0 gs = _; rw [HX1.out, if_neg (fun q => q (.inl hnb))])
        clear HX1 hnb HEu
        go_wp2_with fail
        refine (HNm.out _).mono ?_
        rintro e wX ⟨rfl, rfl⟩
        have HS := HS0
        have HR := HR0
        clear HNm HR0 HS0
        go_wp2_with fail
        refine (HFi.out _ HS.out.b).mono ?_
        rintro e w4 ⟨rfl, b4⟩
        have HS4 := (show Hid (DcS w w4 (.slice (some ⟨b, o, none⟩) gs.length c)) from HS.out.later b4)
        have HR4 := (show Hid (RB w4 wr.heap.size g.1 (.slice A2 g.2.length c2)) from HR.out.later b4)
        have y1 := HR4.out.c1
        clear HFi b4 HS HR
        have HS := HS4
        clear HS4
        by_cases htw : tw gs g.1 k = true
        · have HF := (show Hid (ckG gs = ((k, 0), 80)) from HE.out _ (by rw [HX.out, if_pos htw]) (by show (80 : Int) ≠ 0; decide))
          have tt : fdN gs g.1 < (k : Int) := (tw_fd hgk).1 htw
          clear HX HE HCk HR4 HG HP htw hgk y1
          have HZ := (show Hid (SX ((w4.setCell ⟨w.heap.size + 1, 0, none⟩ (.int .i64 (k : Int))).setCell ⟨w.heap.size + 1, 1, none⟩ (.int .i64 0)) (w.heap.size + 1) (k : Int) 0) from HS.out.s.set _ _)
          have HBz := (show Hid (Below w.heap.size w ((w4.setCell ⟨w.heap.size + 1, 0, none⟩ (.int .i64 (k : Int))).setCell ⟨w.heap.size + 1, 1, none⟩ (.int .i64 0))) from set_below (set_below HS.out.b (Nat.le_succ _)) (Nat.le_succ _))
          have c0 := HS.out.s.c0
          have c1 := HS.out.s.c1
          have f0 := HS.out.s.fz 0
          have f1 := HS.out.s.fz 1
          clear HS
          go_wp2_with fail
          have d0 := HZ.out.c0
          have d1 := HZ.out.c1
          clear c0 c1 f0 f1
          generalize (w4.setCell ⟨w.heap.size + 1, 0, none⟩ (.int .i64 (k : Int))).setCell ⟨w.heap.size + 1, 1, none⟩ (.int .i64 0) = wZ at *
          refine bodyPost_ret (v := .tuple #[.agg #[.int .i64 (k : Int), .int .i64 0], .int .i64 80]) (by simp [results, Tryz.results18, go_sem, d0, d1]) rfl ⟨by rw [HF.out]; try rfl, HBz.out⟩
        · have tt : ¬ fdN gs g.1 < (k : Int) := fun q => htw ((tw_fd hgk).2 q)
          have HX2 := (show Hid (c1G gs 0 0 gs = if (ck g.2).2 ≠ 0 then ((k, (ck g.2).1), (ck g.2).2) else if 2048 < m + g.2.length then ((k, 0), 2) else c1G gs (k + 1) (m + g.2.length) (gs.drop (k + 1))) from by show c1G gs 0 0 gs = _; rw [HX.out, if_neg htw])
          clear HX htw hgk
          go_wp2_with fail
          refine (HCk.out _ HS.out.b).mono ?_
          rintro e w5 ⟨rfl, b5⟩
          have HS5 := (show Hid (DcS w w5 (.slice (some ⟨b, o, none⟩) gs.length c)) from HS.out.later b5)
          have y1' := (HR4.out.later b5).c1
          clear HCk b5 HS HR4 y1 tt
          have HS := HS5
          clear HS5
          by_cases hc : (ck g.2).2 = 0
          · have tc : ((ck g.2).2 != 0) = false := by rw [hc]; rfl
            have hg3 : g.2.length ≤ 2048 := by
              by_cases q : g.2.length ≤ 2048
              · exact q
              · have := ck_long (L := g.2) (by omega)
                rw [this] at hc
                exact absurd hc (by decide)
            have HV := (show Hid (c1G gs 0 0 gs = if 2048 < m + g.2.length then ((k, 0), 2) else c1G gs (k + 1) (m + g.2.length) (gs.drop (k + 1))) from by show c1G gs 0 0 gs = _; rw [HX2.out, if_neg (by rw [hc]; simp)])
            generalize hcc : (ck g.2).2 = cc2 at *
            clear hcc HX2
            by_cases hn : 2048 < m + g.2.length
            · have HF := (show Hid (ckG gs = ((k, 0), 2)) from HE.out _ (by rw [HV.out, if_pos hn]) (by show (2 : Int) ≠ 0; decide))
              have tn : (2048 : Int) < (m : Int) + (g.2.length : Int) := by omega
              clear HV HE HG HP hn
              have HZ := (show Hid (SX ((w5.setCell ⟨w.heap.size + 1, 0, none⟩ (.int .i64 (k : Int))).setCell ⟨w.heap.size + 1, 1, none⟩ (.int .i64 0)) (w.heap.size + 1) (k : Int) 0) from HS.out.s.set _ _)
              have HBz := (show Hid (Below w.heap.size w ((w5.setCell ⟨w.heap.size + 1, 0, none⟩ (.int .i64 (k : Int))).setCell ⟨w.heap.size + 1, 1, none⟩ (.int .i64 0))) from set_below (set_below HS.out.b (Nat.le_succ _)) (Nat.le_succ _))
              have c0 := HS.out.s.c0
              have c1 := HS.out.s.c1
              have f0 := HS.out.s.fz 0
              have f1 := HS.out.s.fz 1
              clear HS
              go_wp2_with fail
              have d0 := HZ.out.c0
              have d1 := HZ.out.c1
              clear c0 c1 f0 f1
              generalize (w5.setCell ⟨w.heap.size + 1, 0, none⟩ (.int .i64 (k : Int))).setCell ⟨w.heap.size + 1, 1, none⟩ (.int .i64 0) = wZ at *
              refine bodyPost_ret (v := .tuple #[.agg #[.int .i64 (k : Int), .int .i64 0], .int .i64 2]) (by simp [results, Tryz.results18, go_sem, d0, d1]) rfl ⟨by rw [HF.out]; try rfl, HBz.out⟩
            · have HX3 := (show Hid (c1G gs 0 0 gs = c1G gs (k + 1) (m + g.2.length) (gs.drop (k + 1))) from by show c1G gs 0 0 gs = _; rw [HV.out, if_neg hn])
              have tn : ¬ (2048 : Int) < (m : Int) + (g.2.length : Int) := by omega
              clear HV
              go_wp2_with fail
              go_roundw
              case rel => exact ⟨k + 1, m + g.2.length, by omega, by go_num, by go_num, by omega, HX3, HS⟩
              case measure => simp [intOf]; omega
          · have tc : ((ck g.2).2 != 0) = true := by rw [bne, beq_eq_false_iff_ne.2 hc]; rfl
            have HF := (show Hid (ckG gs = ((k, (ck g.2).1), (ck g.2).2)) from HE.out _ (by rw [HX2.out, if_pos hc]) hc)
            clear HX2 HE HG HP hc
            generalize hcc : (ck g.2).2 = cc2 at *
            generalize hcd : (ck g.2).1 = cc1 at *
            clear hcc hcd
            have HZ := (show Hid (SX ((w5.setCell ⟨w.heap.size + 1, 0, none⟩ (.int .i64 (k : Int))).setCell ⟨w.heap.size + 1, 1, none⟩ (.int .i64 (cc1 : Int))) (w.heap.size + 1) (k : Int) (cc1 : Int)) from HS.out.s.set _ _)
            have HBz := (show Hid (Below w.heap.size w ((w5.setCell ⟨w.heap.size + 1, 0, none⟩ (.int .i64 (k : Int))).setCell ⟨w.heap.size + 1, 1, none⟩ (.int .i64 (cc1 : Int)))) from set_below (set_below HS.out.b (Nat.le_succ _)) (Nat.le_succ _))
            have c0 := HS.out.s.c0
            have c1 := HS.out.s.c1
            have f0 := HS.out.s.fz 0
            have f1 := HS.out.s.fz 1
            clear HS
            go_wp2_with fail
            have d0 := HZ.out.c0
            have d1 := HZ.out.c1
            clear c0 c1 f0 f1
            generalize (w5.setCell ⟨w.heap.size + 1, 0, none⟩ (.int .i64 (k : Int))).setCell ⟨w.heap.size + 1, 1, none⟩ (.int .i64 (cc1 : Int)) = wZ at *
            refine bodyPost_ret (v := .tuple #[.agg #[.int .i64 (k : Int), .int .i64 (cc1 : Int)], .int .i64 cc2]) (by simp [results, Tryz.results18, go_sem, d0, d1]) rfl ⟨by rw [HF.out]; try rfl, HBz.out⟩
    · obtain rfl : k = gs.length := by omega
      have HE2 := (show Hid (ckG gs = unG gs 0 gs) from HEu.out (by rw [HX0.out, List.drop_length]; rfl))
      clear HX0 HE HEu
      go_wp2_with fail
      clear q1
      go_loopw [9] (fun t wr => ∃ k : Nat, k ≤ gs.length ∧ t = .int .i64 k ∧ Hid (unG gs 0 gs = unG gs k (gs.drop k)) ∧ Hid (DcS w wr (.slice A gs.length c))) (fun t _ => gs.length - (intOf t).toNat)
      case atStart => exact ⟨0, by omega, by go_num, rfl, HW⟩
      case round =>
        obtain ⟨k, hk, rfl, HX, HW⟩ := hrel
        have q1 := HW.out.x.cl
        by_cases hlt : k < gs.length
        · obtain ⟨g, hg, s1, s2, s3, hd⟩ := HG.out k hlt
          obtain ⟨b, o, A2, c2, rfl, lb, x0, x1, r2⟩ := HP.out.d k g hg
          have z0 : (0 : Int) ≤ (k : Int) := by omega
          have z1 : (k : Int) < (gs.length : Int) := by omega
          have HLb := (show Hid (b < w.heap.size ∧ w.cell? ⟨b, o + k * 2 + 1, none⟩ = some (.slice A2 g.2.length c2)) from ⟨lb, x1⟩)
          have HR2 := (show Hid (RdN w A2 g.2) from r2)
          have HU := (show Hid (unG gs 0 gs = match unN gs 0 g.2 with
            | some j => ((k, j), 81)
            | none => unG gs (k + 1) (gs.drop (k + 1))) from by show unG gs 0 gs = _; rw [HX.out, hd, unG_cons]; try rfl)
          have HN := (show Hid (∀ j, j < g.2.length → ∃ n, g.2[j]? = some n ∧ g.2 ≠ [] ∧ n.tx.size ≤ 140737488355328 ∧ g.2.drop j = n :: g.2.drop (j + 1)) from fun j hj => ⟨_, List.getElem?_eq_getElem hj, by (intro q; rw [q] at hj; simp at hj), s3 _ (List.getElem_mem hj), List.drop_eq_getElem_cons hj⟩)
          clear hg r2 s3 HX hd s1 x0 x1 lb
          go_wp2_with fail
          clear q1
          go_loopw [10] (fun t wr => ∃ j : Nat, j ≤ g.2.length ∧ t = .int .i64 j ∧ Hid (unN gs 0 g.2 = unN gs j (g.2.drop j)) ∧ Hid (DcS w wr (.slice (some ⟨b, o, none⟩) gs.length c))) (fun t _ => g.2.length - (intOf t).toNat)
          case atStart => exact ⟨0, by omega, by go_num, rfl, HW⟩
          case round =>
            obtain ⟨j, hj, rfl, HX, HW⟩ := hrel
            have q1 := HW.out.x.cl
            have x1' := (HW.out.b.cell (p := ⟨b, o + k * 2 + 1, none⟩) HLb.out.1).trans HLb.out.2
            by_cases hjl : j < g.2.length
            · obtain ⟨n, hn, nl, st, hd⟩ := HN.out j hjl
              obtain ⟨g1, o1, rfl, l1, q2⟩ := HR2.out nl
              obtain ⟨a0, a1, a2, a3, a4, a5, a6⟩ := (q2.same (HW.out.b.block g1 l1)) j n hn
              have y0 : (0 : Int) ≤ (j : Int) := by omega
              have y1 : (j : Int) < (g.2.length : Int) := by omega
              have HW2 := (show Hid (DcS w (wr.alloc (ndO n)) (.slice (some ⟨b, o, none⟩) gs.length c)) from HW.out.later (below_box _ _))
              have q3 := HW2.out.x.cl
              clear HN HR2 HG q2 HW nl hn st
              by_cases h6 : n.op = 6
              · have t6 : (n.op == 6) = true := by rw [h6]; rfl
                have HFi : Hid (∀ W, Below w.heap.size w W → Calls Tryz.prog 32 #[.agg #[.slice (some ⟨b, o, none⟩) gs.length c], .string n.tx] W fun e w' => e = .returned (.int .i64 (fdN gs n.tx)) ∧ Below W.heap.size W w') := fun W hW => find_any gs (some ⟨b, o, none⟩) c n.tx W (HP.out.later hW)
                cases hf : fdG gs n.tx with
                | none =>
                  have tf : fdN gs n.tx < 0 := by rw [fdN_none hf]; decide
                  have HF := (show Hid (ckG gs = ((k, j), 81)) from by show ckG gs = _; rw [HE2.out, HU.out, HX.out, hd, unN_cons, if_pos ⟨h6, hf⟩])
                  clear HX HU hd hf h6 HP HE2
                  go_wp2_with fail
                  refine (HFi.out _ HW2.out.b).mono ?_
                  rintro e w4 ⟨rfl, b4⟩
                  have HS := (show Hid (DcS w w4 (.slice (some ⟨b, o, none⟩) gs.length c)) from HW2.out.later b4)
                  clear HFi b4 HW2
                  have HZ := (show Hid (SX ((w4.setCell ⟨w.heap.size + 1, 0, none⟩ (.int .i64 (k : Int))).setCell ⟨w.heap.size + 1, 1, none⟩ (.int .i64 (j : Int))) (w.heap.size + 1) (k : Int) (j : Int)) from HS.out.s.set _ _)
                  have HBz := (show Hid (Below w.heap.size w ((w4.setCell ⟨w.heap.size + 1, 0, none⟩ (.int .i64 (k : Int))).setCell ⟨w.heap.size + 1, 1, none⟩ (.int .i64 (j : Int)))) from set_below (set_below HS.out.b (Nat.le_succ _)) (Nat.le_succ _))
                  have c0 := HS.out.s.c0
                  have c1 := HS.out.s.c1
                  have f0 := HS.out.s.fz 0
                  have f1 := HS.out.s.fz 1
                  clear HS
                  go_wp2_with fail
                  have d0 := HZ.out.c0
                  have d1 := HZ.out.c1
                  clear c0 c1 f0 f1
                  generalize (w4.setCell ⟨w.heap.size + 1, 0, none⟩ (.int .i64 (k : Int))).setCell ⟨w.heap.size + 1, 1, none⟩ (.int .i64 (j : Int)) = wZ at *
                  refine bodyPost_ret (v := .tuple #[.agg #[.int .i64 (k : Int), .int .i64 (j : Int)], .int .i64 81]) (by simp [results, Tryz.results18, go_sem, d0, d1]) rfl ⟨by rw [HF.out]; try rfl, HBz.out⟩
                | some i =>
                  have tf : ¬ fdN gs n.tx < 0 := by rw [fdN_some hf]; omega
                  have HX2 := (show Hid (unN gs 0 g.2 = unN gs (j + 1) (g.2.drop (j + 1))) from by show unN gs 0 g.2 = _; rw [HX.out, hd, unN_cons, if_neg (by rintro ⟨_, q⟩; rw [hf] at q; cases q)])
                  clear HX HU hd hf h6 HP HE2
                  go_wp2_with fail
                  refine (HFi.out _ HW2.out.b).mono ?_
                  rintro e w4 ⟨rfl, b4⟩
                  have HS := (show Hid (DcS w w4 (.slice (some ⟨b, o, none⟩) gs.length c)) from HW2.out.later b4)
                  clear HFi b4 HW2
                  go_wp2_with fail
                  go_roundw
                  case rel => exact ⟨j + 1, by omega, by go_num, HX2, HS⟩
                  case measure => simp [intOf]; omega
              · have t6 : (n.op == 6) = false := beq_eq_false_iff_ne.2 h6
                have HX2 := (show Hid (unN gs 0 g.2 = unN gs (j + 1) (g.2.drop (j + 1))) from by show unN gs 0 g.2 = _; rw [HX.out, hd, unN_cons, if_neg (by rintro ⟨q, _⟩; exact h6 q)])
                clear HX HU hd h6 HP HE2
                go_wp2_with fail
                go_roundw
                case rel => exact ⟨j + 1, by omega, by go_num, HX2, HW2⟩
                case measure => simp [intOf]; omega
            · obtain rfl : j = g.2.length := by omega
              have HX2 := (show Hid (unG gs 0 gs = unG gs (k + 1) (gs.drop (k + 1))) from by show unG gs 0 gs = _; rw [HU.out, HX.out, List.drop_length]; rfl)
              clear HX HU HN HR2 HP HE2
              go_wp2_with fail
              go_roundw
              case rel => exact ⟨k + 1, by omega, by go_num, HX2, HW⟩
              case measure => simp [intOf]; omega
        · obtain rfl : k = gs.length := by omega
          have HF := (show Hid (ckG gs = ((0, 0), 0)) from by show ckG gs = _; rw [HE2.out, HX.out, List.drop_length]; rfl)
          have HS := HW
          clear HX HG HP HE2 HW
          have HZ := (show Hid (SX ((wr.setCell ⟨w.heap.size + 1, 0, none⟩ (.int .i64 0)).setCell ⟨w.heap.size + 1, 1, none⟩ (.int .i64 0)) (w.heap.size + 1) 0 0) from HS.out.s.set _ _)
          have HBz := (show Hid (Below w.heap.size w ((wr.setCell ⟨w.heap.size + 1, 0, none⟩ (.int .i64 0)).setCell ⟨w.heap.size + 1, 1, none⟩ (.int .i64 0))) from set_below (set_below HS.out.b (Nat.le_succ _)) (Nat.le_succ _))
          have c0 := HS.out.s.c0
          have c1 := HS.out.s.c1
          have f0 := HS.out.s.fz 0
          have f1 := HS.out.s.fz 1
          clear HS
          go_wp2_with fail
          have d0 := HZ.out.c0
          have d1 := HZ.out.c1
          clear c0 c1 f0 f1
          generalize (wr.setCell ⟨w.heap.size + 1, 0, none⟩ (.int .i64 0)).setCell ⟨w.heap.size + 1, 1, none⟩ (.int .i64 0) = wZ at *
          refine bodyPost_ret (v := .tuple #[.agg #[.int .i64 0, .int .i64 0], .int .i64 0]) (by simp [results, Tryz.results18, go_sem, d0, d1]) rfl ⟨by rw [HF.out]; try rfl, HBz.out⟩
end Go.Proofs.YtokfgoepnfjafaaGreat.N

namespace Go.Proofs.YtokfgoepnfjafaaGreat.T
open Go.RowKit
theorem enters47 (args : Array Value) (w : World) : (callFunc 41 args).run Tryz.prog w = .ok (.enter 41 args) w := enters_of Tryz.func41 (by kernel_rfl) rfl args w
theorem step_call47 {ops : Array Oper} {o : Oper} {a : Act} {w : World} {K : Act → World → Prop} {Q : Exit → Act → World → Prop} {E : Prop} (hgd : o.guard = none) (x : Operand) (ho : o.op = .call { callee := .value (.func 41), args := #[x], argTypes := #[62] }) (v : Value) (hx : a.eval x = v)
    (hc : Calls Tryz.prog 41 #[v] w fun e w' => ∃ r, e = .returned r ∧ K (a.put o.dst r) w') :
    if Region.wanted o (yielded ops a.tmps) = true then Oper.wp Tryz.prog o a w K Q else E := by
  have hw : Region.wanted o (yielded ops a.tmps) = true := by simp [Region.wanted, hgd]
  rw [if_pos hw]
  have h47 := enters47
  have he : (execOp a.eval o).run Tryz.prog w = .ok (.enter 41 #[v]) w := by
    unfold execOp
    simp [ho, go_sem, invoke, h47]
    rw [← hx]
    cases x <;> simp [Act.eval]
  unfold Oper.wp
  rw [he, Oper.upon_enter]
  refine hc.mono ?_
  rintro e w' ⟨r, rfl, hk⟩
  exact hk
end Go.Proofs.YtokfgoepnfjafaaGreat.T

namespace Go.Proofs.YtokfgoepnfjafaaGreat.T
open Go.RowKit
theorem field_tx (n : Nd) (W : World) : (Instr.field 62 (ndG n) 2).run Tryz.prog W = .ok (.string n.tx) W := by
  simp [go_sem, asAgg, Instr.field, Tryz.isAgg9, Tryz.sizeOf9]
/-- A list of texts in a box. -/
structure TB (W : World) (b : Nat) (v : Value) : Prop where
  heap : W.heap[b]? = some (.cells #[v] 63 (0, 0))
theorem TB.lt {W : World} {b : Nat} {v : Value} (x : TB W b v) : b < W.heap.size := (Array.getElem?_eq_some_iff.1 x.heap).1
theorem TB.c0 {W : World} {b : Nat} {v : Value} (x : TB W b v) : W.cell? ⟨b, 0, none⟩ = some v := by rw [cell_of_row W b 0 _ 63 (0, 0) x.heap]; rfl
theorem TB.fz {W : World} {b : Nat} {v : Value} (x : TB W b v) : W.frozen? ⟨b, 0, none⟩ = false := frozen_of_row W b 0 _ 63 x.heap
theorem TB.same {W W' : World} {b : Nat} {v : Value} (x : TB W b v) (hb : W'.heap[b]? = W.heap[b]?) : TB W' b v := ⟨hb.trans x.heap⟩
theorem TB.set {W : World} {b : Nat} {v : Value} (x : TB W b v) (u : Value) : TB (W.setCell ⟨b, 0, none⟩ u) b u := ⟨by rw [heap_setCell_same W b 0 _ 63 _ x.heap]; rfl⟩

set_option maxRecDepth 100000 in
set_option maxHeartbeats 8000000 in
theorem names1_new (L : List Nd) (p : Pt) (va v : Value) (n : Nd) (l : List ByteArray) (g o cp bp bn B : Nat) (hl : l.length ≤ 2048) (w : World) (hn : L[p.2.1]? = some n) (_hne : bp ≠ bn) (hp : w.cell? ⟨bp, 0, none⟩ = some (.slice (some ⟨g, o, none⟩) L.length cp)) (hc : TB w bn v) (ho : w.ownsRow B 9 1 v l.length (stc l)) (hB : bn < B) (hBw : B ≤ w.heap.size) (hr : NdL w g o L) (_hg : g ≠ bn) (h6 : n.op = 6) (hi : inB n.tx l = false) :
    Calls Tryz.prog 39 #[ptG p, va, .pointer (some ⟨bp, 0, none⟩), .pointer (some ⟨bn, 0, none⟩)] w fun e w' => (∃ u, e = .returned u) ∧ ∃ v', TB w' bn v' ∧ w'.ownsRow B 9 1 v' (l.length + 1) (stc (l ++ [n.tx])) ∧ (∀ b, v'.ownBlock = some b → v.ownBlock = some b ∨ w.heap.size ≤ b) ∧ Kp (fun b => b = bn ∨ v.ownBlock = some b) w w' := by
  have hj : p.2.1 < L.length := by
    by_cases q : p.2.1 < L.length
    · exact q
    · rw [List.getElem?_eq_none (by omega)] at hn; cases hn
  obtain ⟨i0, hinf, hz0, hz1, hz2⟩ := info_parts Tryz.info9
  obtain ⟨e0, e1, e2, e3, e4, e5, e6⟩ := hr p.2.1 n hn
  have hlp := World.block_lt_of_cell? w _ hp
  have hlg := (hr p.2.1 n hn).lt
  have hlc := hc.lt
  simp only at hlp
  have c0 := hc.c0
  have f0 := hc.fz
  have z0 : (0 : Int) ≤ (p.2.1 : Int) := by omega
  have z1 : (p.2.1 : Int) < (L.length : Int) := by omega
  have t6 : (n.op == 6) = true := beq_iff_eq.2 h6
  have HCo : Hid (∀ n w, Calls Tryz.prog 41 #[ndG n] w fun e w' => e = .returned (ndG n) ∧ Below w.heap.size w w') := fun n w => copied_any n w
  have HCn : Hid (∀ W, Below w.heap.size w W → Calls Tryz.prog 40 #[v, .string n.tx] W fun e w' => e = .returned (.bool false) ∧ w' = W) := fun W hW => by
    have h := contains_any v n.tx l (by omega) W (own_rdt (own_below ho hW) rfl)
    rw [hi] at h
    exact h
  obtain ⟨W2, hW2⟩ : ∃ W2, W2 = (w.alloc (.cells #[.int .i64 p.1, .int .i64 p.2.1, .int .i64 p.2.2] 82)).alloc (.cells #[.int .i64 n.op, .int .i64 n.nn, .string n.tx, .int .u64 n.s0, .int .u64 n.s1, .int .u64 n.s2, .int .u64 n.s3] 62) := ⟨_, rfl⟩
  have hB2 : Below w.heap.size w W2 := by rw [hW2]; exact (below_box w _).alloc (below_box w _).size _
  have HB2 := (show Hid (Below w.heap.size w W2) from hB2)
  have hx2 : NB W2 (w.heap.size + 1) 0 n := by
    rw [hW2]
    have h := nb_new (w.alloc (.cells #[.int .i64 p.1, .int .i64 p.2.1, .int .i64 p.2.2] 82)) n
    rw [World.size_alloc] at h
    exact h
  have hs2 : W2.heap.size = w.heap.size + 2 := by rw [hW2]; simp
  have HO := (show Hid (W2.ownsRow B 9 1 v l.length (stc l)) from own_below ho hB2)
  have HT := (show Hid (TB W2 bn v) from hc.same (hB2.block bn hlc))
  have HX := (show Hid (NB W2 (w.heap.size + 1) 0 n) from hx2)
  have HCn2 := (show Hid (∀ _ : Unit, Calls Tryz.prog 40 #[v, .string n.tx] W2 fun e w' => e = .returned (.bool false) ∧ w' = W2) from fun _ => HCn.out W2 hB2)
  have HTw := (show Hid (TB w bn v) from hc)
  have HRw := (show Hid (∀ j, v.ownBlock = some j → j < w.heap.size) from fun j hj => (ho.lt j hj).2)
  clear hr hn hc ho h6 hi hx2 hB2 HCn
  subst hW2
  go_enter Tryz.func39, Tryz.ntmps39
  go_wp2_with fail
  refine (HCn2.out ()).mono ?_
  rintro e w3 ⟨rfl, rfl⟩
  clear HCn2 e0 e1 e2 e3 e4 e5 e6 c0 f0 hp t6
  generalize hW2 : (w.alloc (.cells #[.int .i64 p.1, .int .i64 p.2.1, .int .i64 p.2.2] 82)).alloc (.cells #[.int .i64 n.op, .int .i64 n.nn, .string n.tx, .int .u64 n.s0, .int .u64 n.s1, .int .u64 n.s2, .int .u64 n.s3] 62) = W2 at *
  clear hW2
  have k0 := HT.out.c0
  have f0 := HT.out.fz
  obtain ⟨d0, d1, d2, d3, d4, d5, d6⟩ := HX.out
  simp only [Nat.zero_add] at d0 d1 d2 d3 d4 d5 d6
  have hbn : bn < w.heap.size := hlc
  have hfl := field_tx n
  have HAp := (show Hid (∀ W : World, Below W2.drew.heap.size W2.drew W → ∃ g3 cap w5, (Builtin.append_ #[63, 63] 63 #[v, .slice (some ⟨W.heap.size, 0, none⟩) 1 1]).run Tryz.prog (W.alloc (.cells #[.string n.tx] 9)) = .ok (.slice (some ⟨g3, 0, none⟩) (l.length + 1) cap) w5 ∧ (w5.ownsRow B 9 1 (.slice (some ⟨g3, 0, none⟩) (l.length + 1) cap) (l.length + 1) (stc l ++ [.string n.tx]) ∧ (W.alloc (.cells #[.string n.tx] 9)).grownBy w5 v.ownBlock ∧ (v.ownBlock = some g3 ∨ g3 = W.heap.size + 1) ∧ g3 < w5.heap.size)) from fun W hW =>
    run_append_lies (P := Tryz.prog) (W.alloc (.cells #[.string n.tx] 9)) 63 63 B 9 i0 (.string ⟨#[]⟩) 1 16 Tryz.underlying63 hinf hz0 hz1 hz2 rfl (by decide) v l.length (stc l) ((own_below (own_drew HO.out) hW).alloc _) ⟨W.heap.size, 0, none⟩ 1 1 [.string n.tx] rfl (cell_one_new _ _ _) (by simp [Value.oneCell']) (by decide) (by unfold maxLen; omega) (by omega) (by have q1 := hW.size; have q2 : W2.drew.heap.size = W2.heap.size := rfl; rw [World.size_alloc]; omega) (W.heap.size + 1) (by simp))
  have HRow := (show Hid (∀ j, v.ownBlock = some j → B ≤ j ∧ j < W2.heap.size ∧ j < w.heap.size) from fun j hj => ⟨(HO.out.lt j hj).1, (HO.out.lt j hj).2, HRw.out j hj⟩)
  have HS := (show Hid (∀ W : World, (W.heap[bn]? = W2.heap[bn]?) → (W.heap[w.heap.size + 1]? = W2.heap[w.heap.size + 1]?) → W.cell? ⟨bn, 0, none⟩ = some v ∧ W.frozen? ⟨bn, 0, none⟩ = false ∧ W.cell? ⟨w.heap.size + 1, 0, none⟩ = some (.int .i64 n.op) ∧ W.cell? ⟨w.heap.size + 1, 1, none⟩ = some (.int .i64 n.nn) ∧ W.cell? ⟨w.heap.size + 1, 2, none⟩ = some (.string n.tx) ∧ W.cell? ⟨w.heap.size + 1, 3, none⟩ = some (.int .u64 n.s0) ∧ W.cell? ⟨w.heap.size + 1, 4, none⟩ = some (.int .u64 n.s1) ∧ W.cell? ⟨w.heap.size + 1, 5, none⟩ = some (.int .u64 n.s2) ∧ W.cell? ⟨w.heap.size + 1, 6, none⟩ = some (.int .u64 n.s3)) from fun W q1 q2 => by
    have h1 := HT.out.same q1
    have h2 := HX.out.same q2
    obtain ⟨d0, d1, d2, d3, d4, d5, d6⟩ := h2
    simp only [Nat.zero_add] at d0 d1 d2 d3 d4 d5 d6
    exact ⟨h1.c0, h1.fz, d0, d1, d2, d3, d4, d5, d6⟩)
  have HS2 := (show Hid (∀ W W5 : World, Below W2.drew.heap.size W2.drew W → (W.alloc (.cells #[.string n.tx] 9)).grownBy W5 v.ownBlock → W5.cell? ⟨bn, 0, none⟩ = some v ∧ W5.frozen? ⟨bn, 0, none⟩ = false ∧ W5.cell? ⟨w.heap.size + 1, 0, none⟩ = some (.int .i64 n.op) ∧ W5.cell? ⟨w.heap.size + 1, 1, none⟩ = some (.int .i64 n.nn) ∧ W5.cell? ⟨w.heap.size + 1, 2, none⟩ = some (.string n.tx) ∧ W5.cell? ⟨w.heap.size + 1, 3, none⟩ = some (.int .u64 n.s0) ∧ W5.cell? ⟨w.heap.size + 1, 4, none⟩ = some (.int .u64 n.s1) ∧ W5.cell? ⟨w.heap.size + 1, 5, none⟩ = some (.int .u64 n.s2) ∧ W5.cell? ⟨w.heap.size + 1, 6, none⟩ = some (.int .u64 n.s3)) from fun W W5 hW hg => by
    have q : ∀ b, b = bn ∨ b = w.heap.size + 1 → W5.heap[b]? = W2.heap[b]? := fun b hb => by
      have hb2 : b < W2.heap.size := by omega
      have hbW : b < W.heap.size := Nat.lt_of_lt_of_le hb2 hW.size
      rw [hg.block b (by rw [World.size_alloc]; omega) (fun e => by have := HRow.out b e.symm; omega), (below_box W _).block b hbW]
      exact hW.block b hb2
    exact HS.out W5 (q bn (.inl rfl)) (q _ (.inr rfl)))
  have HS1 := (show Hid (∀ W : World, Below W2.drew.heap.size W2.drew W → W.cell? ⟨bn, 0, none⟩ = some v ∧ W.frozen? ⟨bn, 0, none⟩ = false ∧ W.cell? ⟨w.heap.size + 1, 0, none⟩ = some (.int .i64 n.op) ∧ W.cell? ⟨w.heap.size + 1, 1, none⟩ = some (.int .i64 n.nn) ∧ W.cell? ⟨w.heap.size + 1, 2, none⟩ = some (.string n.tx) ∧ W.cell? ⟨w.heap.size + 1, 3, none⟩ = some (.int .u64 n.s0) ∧ W.cell? ⟨w.heap.size + 1, 4, none⟩ = some (.int .u64 n.s1) ∧ W.cell? ⟨w.heap.size + 1, 5, none⟩ = some (.int .u64 n.s2) ∧ W.cell? ⟨w.heap.size + 1, 6, none⟩ = some (.int .u64 n.s3)) from fun W hW => HS.out W (hW.block bn (by show bn < W2.heap.size; omega)) (hW.block (w.heap.size + 1) (by show w.heap.size + 1 < W2.heap.size; omega)))
  have HS4 := (show Hid (∀ W W5 : World, Below W2.drew.heap.size W2.drew W → (W.alloc (.cells #[.string n.tx] 9)).grownBy W5 v.ownBlock → ∀ b, b < w.heap.size → v.ownBlock ≠ some b → W5.heap[b]? = w.heap[b]?) from fun W W5 hW hg b hb hnb => by
    have hb2 : b < W2.heap.size := by omega
    have hbW : b < W.heap.size := Nat.lt_of_lt_of_le hb2 hW.size
    rw [hg.block b (by rw [World.size_alloc]; omega) (fun e => hnb e.symm), (below_box W _).block b hbW]
    exact (hW.block b hb2).trans (HB2.out.block b hb))
  have HS3 := (show Hid (∀ W : World, Below W2.drew.heap.size W2.drew W → (W.alloc (.cells #[.string n.tx] 9)).cell? ⟨bn, 0, none⟩ = some v) from fun W hW => by
    have h1 : TB W bn v := HT.out.same (hW.block bn (by show bn < W2.heap.size; omega))
    exact (h1.same ((below_box W _).block bn h1.lt)).c0)
  go_wp2_with fail
  go_region_law ((first
      | (refine step_call47 rfl _ (by rfl) _ (by rfl) ?_; refine (HCo.out n _).mono ?_; rintro e wA ⟨rfl, bA⟩; refine ⟨_, rfl, ?_⟩; obtain ⟨kA, fA, a0, a1, a2, a3, a4, a5, a6⟩ := HS1.out _ bA; have kB := HS3.out _ bA)
      | (refine step_append_lies _ (by rfl) _ _ _ (by rfl) B 9 i0 _ 1 16 Tryz.underlying63 hinf hz0 hz1 hz2 rfl (by omega) _ _ (stc l) (by rfl) ((own_below (own_drew HO.out) bA).alloc _) ⟨wA.heap.size, 0, none⟩ 1 1 [.string n.tx] (by rfl) (by rfl) (cell_one_new _ _ _) (by simp [Value.oneCell']) (by omega) (by unfold maxLen; omega) (by omega) (by have q1 := bA.size; have q2 : W2.drew.heap.size = W2.heap.size := rfl; rw [World.size_alloc]; omega) (wA.heap.size + 1) (by simp) ?_; intro g3 cap w5 hown1 hgrow hat hltg; obtain ⟨k5, f5, r0, r1, r2, r3, r4, r5, r6⟩ := HS2.out _ _ bA hgrow)))
  all_goals
    have h4 := HS4.out _ _ bA hgrow
    have hbnv : v.ownBlock ≠ some bn := fun e => by have := (HRow.out bn e).1; omega
    have hT5 : TB w5 bn v := HTw.out.same (h4 bn hlc hbnv)
    have hfin : (∃ v', TB (w5.setCell ⟨bn, 0, none⟩ (.slice (some ⟨g3, 0, none⟩) (l.length + 1) cap)) bn v' ∧ (w5.setCell ⟨bn, 0, none⟩ (.slice (some ⟨g3, 0, none⟩) (l.length + 1) cap)).ownsRow B 9 1 v' (l.length + 1) (stc (l ++ [n.tx])) ∧ (∀ b, v'.ownBlock = some b → v.ownBlock = some b ∨ w.heap.size ≤ b) ∧ Kp (fun b => b = bn ∨ v.ownBlock = some b) w (w5.setCell ⟨bn, 0, none⟩ (.slice (some ⟨g3, 0, none⟩) (l.length + 1) cap))) := by
      have q1 := bA.size
      have q2 : W2.drew.heap.size = W2.heap.size := rfl
      have q3 := HB2.out.size
      refine ⟨_, hT5.set _, ?_, fun b e => ?_, ⟨?_, ?_, ?_, ?_, fun b hb hnb => ?_⟩⟩
      · have h5 := ownsRow_setCell_below hown1 (a := ⟨bn, 0, none⟩) hB (.slice (some ⟨g3, 0, none⟩) (l.length + 1) cap)
        unfold stc
        rw [List.map_append]
        exact h5
      · have e2 : g3 = b := Option.some.inj e
        subst e2
        rcases hat with q | q
        · exact .inl q
        · exact .inr (by omega)
      · exact hgrow.os.trans (bA.os.trans HB2.out.os)
      · exact hgrow.tape.trans (bA.tape.trans HB2.out.tape)
      · exact hgrow.output.trans (bA.output.trans HB2.out.output)
      · have := hgrow.size; rw [World.size_alloc] at this; rw [World.size_setCell]; omega
      · rw [heap_setCell_other _ _ _ _ (fun e => hnb (.inl e))]
        exact h4 b hb (fun e => hnb (.inr e))
    go_end0
    exact ⟨⟨_, rfl⟩, hfin⟩
end Go.Proofs.YtokfgoepnfjafaaGreat.T
