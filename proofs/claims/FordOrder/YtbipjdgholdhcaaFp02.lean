/- DERIVED. Plain mathematics and walks, laid together (2). -/
import Derived.Test.YtbipjdgholdhcaaRows
import Derived.Test.YtbipjdgholdhcaaFp01
namespace Go.Proofs.Ytbipjdgholdhcaa.T
open Go.RowKit
theorem emN_mono {n : Nd} {x y x' y' : Em} {r r' : ByteArray → Em} (hn : alE n = 0) (hx : 1 ≤ arN n.op → OkE x ∧ OkE x' ∧ LeE x x') (hy : 2 ≤ arN n.op → OkE y ∧ OkE y' ∧ LeE y y') (hr : n.op = 6 → LeE (r n.tx) (r' n.tx)) : LeE (emN n x y r) (emN n x' y' r') := by
  have har : ¬ ar n.op < 0 ∧ fdF n = true := by
    unfold alE at hn
    by_cases h : ar n.op < 0
    · rw [if_pos h] at hn; cases hn
    · rw [if_neg h] at hn
      by_cases q : fdF n = true
      · exact ⟨h, q⟩
      · rw [if_neg q] at hn; cases hn
  obtain ⟨ha, hf⟩ := har
  have hop : 1 ≤ n.op ∧ n.op ≤ 23 := by
    unfold ar at ha
    by_cases h : n.op < 1 ∨ 23 < n.op
    · rw [if_pos h] at ha; exact absurd (by decide) ha
    · omega
  unfold fdF at hf
  rw [Bool.and_eq_true, Bool.and_eq_true] at hf
  obtain ⟨⟨_, hu⟩, _⟩ := hf
  have hnn : (n.op = 14 ∨ n.op = 15 ∨ n.op = 16) → 0 ≤ n.nn ∧ n.nn ≤ 50 := fun h => by
    unfold nuF at hu
    rw [if_pos (by omega)] at hu
    simpa using hu
  have hx1 : n.op ≠ 7 → n.op ≠ 8 → ¬ (n.op ≤ 6 ∨ n.op = 17) → OkE x ∧ OkE x' ∧ LeE x x' := fun h7 h8 h6 => hx (by
    unfold arN ar
    rw [if_neg (by omega), if_neg h6, if_neg (by omega)]
    decide)
  have hx2 : n.op = 7 ∨ n.op = 8 → (OkE x ∧ OkE x' ∧ LeE x x') ∧ (OkE y ∧ OkE y' ∧ LeE y y') := fun h => by
    have e : arN n.op = 2 := by
      unfold arN ar
      rw [if_neg (by omega), if_neg (by omega), if_pos h]
      rfl
    exact ⟨hx (by omega), hy (by omega)⟩
  unfold emN
  by_cases c1 : n.op = 1 ∨ n.op = 17 ∨ ((n.op = 14 ∨ n.op = 16) ∧ n.nn = 0)
  · rw [if_pos c1, if_pos c1]; exact LeE.refl _
  rw [if_neg c1, if_neg c1]
  by_cases c2 : n.op = 9 ∨ (n.op = 15 ∧ n.nn = 0)
  · rw [if_pos c2, if_pos c2]
    obtain ⟨a, b, l⟩ := hx1 (by omega) (by omega) (by omega)
    exact ⟨fun h => h, fun h => h, Int.le_refl _, ag_mono b.m1 l.m⟩
  rw [if_neg c2, if_neg c2]
  by_cases c3 : n.op = 2
  · rw [if_pos c3, if_pos c3]; exact LeE.refl _
  rw [if_neg c3, if_neg c3]
  by_cases c4 : n.op = 3 ∨ n.op = 5
  · rw [if_pos c4, if_pos c4]; exact LeE.refl _
  rw [if_neg c4, if_neg c4]
  by_cases c5 : n.op = 4
  · rw [if_pos c5, if_pos c5]; exact LeE.refl _
  rw [if_neg c5, if_neg c5]
  by_cases c6 : n.op = 6
  · rw [if_pos c6, if_pos c6]; exact hr c6
  rw [if_neg c6, if_neg c6]
  by_cases c7 : n.op = 7
  · rw [if_pos c7, if_pos c7]
    obtain ⟨⟨a, b, l⟩, ⟨c, d, m⟩⟩ := hx2 (.inl c7)
    refine ⟨fun h => ?_, fun h => ?_, sumL_mono a.l1 c.l1 b.l1 d.l1 a.l2 c.l2 l.l m.l, sumM_mono a.m1 c.m1 b.m1 d.m1 a.m2 c.m2 l.m m.m⟩
    · have h : (x.nu && y.nu) = true := h
      rw [Bool.and_eq_true] at h
      show (x'.nu && y'.nu) = true
      rw [l.n h.1, m.n h.2]; rfl
    · have h : (x.cf || y.cf) = true := h
      rw [Bool.or_eq_true] at h
      show (x'.cf || y'.cf) = true
      rcases h with h | h
      · rw [l.c h]; rfl
      · rw [m.c h, Bool.or_true]
  rw [if_neg c7, if_neg c7]
  by_cases c8 : n.op = 8
  · rw [if_pos c8, if_pos c8]
    obtain ⟨⟨a, b, l⟩, ⟨c, d, m⟩⟩ := hx2 (.inr c8)
    refine ⟨fun h => ?_, fun h => ?_, les_mono a.l1 c.l1 b.l1 d.l1 a.l2 c.l2 l.l m.l, gre_mono a.m1 c.m1 b.m1 d.m1 a.m2 c.m2 b.m2 d.m2 l.m m.m⟩
    · have h : (x.nu || y.nu) = true := h
      rw [Bool.or_eq_true] at h
      show (x'.nu || y'.nu) = true
      rcases h with h | h
      · rw [l.n h]; rfl
      · rw [m.n h, Bool.or_true]
    · have h : (x.cf && y.cf) = true := h
      rw [Bool.and_eq_true] at h
      show (x'.cf && y'.cf) = true
      rw [l.c h.1, m.c h.2]; rfl
  rw [if_neg c8, if_neg c8]
  obtain ⟨a, b, l⟩ := hx1 c7 c8 (by omega)
  by_cases c10 : n.op = 10
  · rw [if_pos c10, if_pos c10]; exact ⟨l.n, l.c, l.l, ag_mono b.m1 l.m⟩
  rw [if_neg c10, if_neg c10]
  by_cases c11 : n.op = 11
  · rw [if_pos c11, if_pos c11]; exact ⟨fun h => h, fun h => h, Int.le_refl _, l.m⟩
  rw [if_neg c11, if_neg c11]
  by_cases c12 : n.op = 12
  · rw [if_pos c12, if_pos c12]; exact ⟨fun h => h, l.c, Int.le_refl _, Int.le_refl _⟩
  rw [if_neg c12, if_neg c12]
  by_cases c13 : n.op = 13
  · rw [if_pos c13, if_pos c13]; exact LeE.refl _
  rw [if_neg c13, if_neg c13]
  by_cases c14 : n.op = 14
  · rw [if_pos c14, if_pos c14]
    have hN := hnn (by omega)
    exact ⟨l.n, l.c, timL_mono (by omega) hN.2 a.l1 b.l1 a.l2 l.l, timM_mono (by omega) hN.2 a.m1 b.m1 a.m2 l.m⟩
  rw [if_neg c14, if_neg c14]
  by_cases c15 : n.op = 15
  · rw [if_pos c15, if_pos c15]
    have hN := hnn (by omega)
    exact ⟨l.n, l.c, timL_mono (by omega) hN.2 a.l1 b.l1 a.l2 l.l, ag_mono b.m1 l.m⟩
  rw [if_neg c15, if_neg c15]
  by_cases c16 : n.op = 16
  · rw [if_pos c16, if_pos c16]
    have hN := hnn (by omega)
    exact ⟨fun h => h, fun h => h, Int.le_refl _, timM_mono (by omega) hN.2 a.m1 b.m1 a.m2 l.m⟩
  rw [if_neg c16, if_neg c16]
  exact l
/-- What is known of a part that was gone through. -/
def kE (l : List Em) (ks : List Nat) (i : Nat) : Em := match ks[i]? with
  | none => e0
  | some j => (l[j]?).getD e0
/-- What is known of the first nodes; kd: the last nodes of each one's parts. -/
def emL (kd : Nat → List Nat) (r : ByteArray → Em) (L : List Nd) : Nat → List Em
  | 0 => []
  | k + 1 => match L[k]? with
    | none => emL kd r L k
    | some n => emL kd r L k ++ [emN n (kE (emL kd r L k) (kd k) 0) (kE (emL kd r L k) (kd k) 1) r]
theorem emL_succ {kd : Nat → List Nat} {r : ByteArray → Em} {L : List Nd} {k : Nat} {n : Nd} (h : L[k]? = some n) : emL kd r L (k + 1) = emL kd r L k ++ [emN n (kE (emL kd r L k) (kd k) 0) (kE (emL kd r L k) (kd k) 1) r] := by rw [emL, h]
theorem emL_len {kd : Nat → List Nat} {r : ByteArray → Em} {L : List Nd} : ∀ k, k ≤ L.length → (emL kd r L k).length = k := by
  intro k
  induction k with
  | zero => intro _; rfl
  | succ k ih =>
    intro h
    rw [emL_succ (List.getElem?_eq_getElem (by omega)), List.length_append, ih (by omega)]
    rfl
/-- The parts of right patterns lie ahead. -/
structure Kds (kd : Nat → List Nat) (L : List Nd) : Prop where
  n : ∀ (k : Nat) n, L[k]? = some n → (kd k).length = arN n.op
  lt : ∀ (k j : Nat), k < L.length → j ∈ kd k → j < k
theorem kE_at {kd : Nat → List Nat} {r : ByteArray → Em} {L : List Nd} (hk : Kds kd L) {k i : Nat} {n : Nd} (hn : L[k]? = some n) (hi : i < arN n.op) : ∃ j, j < k ∧ (kd k)[i]? = some j ∧ (emL kd r L k)[j]? = some (kE (emL kd r L k) (kd k) i) := by
  have hlt := (List.getElem?_eq_some_iff.1 hn).1
  have hl := hk.n k n hn
  have e : (kd k)[i]? = some (kd k)[i] := List.getElem?_eq_getElem (by omega)
  have hj := hk.lt k _ hlt (List.getElem_mem (show i < (kd k).length by omega))
  refine ⟨_, hj, e, ?_⟩
  have hlen := emL_len (kd := kd) (r := r) (L := L) k (by omega)
  have e2 : (emL kd r L k)[(kd k)[i]]? = some _ := List.getElem?_eq_getElem (by omega)
  unfold kE
  rw [e]
  show _ = some (((emL kd r L k)[(kd k)[i]]?).getD e0)
  rw [e2]
  rfl
theorem emL_ok {kd : Nat → List Nat} {r : ByteArray → Em} {L : List Nd} (hk : Kds kd L) (ha : ∀ n ∈ L, alE n = 0) (hr : ∀ n ∈ L, n.op = 6 → OkE (r n.tx)) : ∀ k, k ≤ L.length → ∀ e ∈ emL kd r L k, OkE e := by
  intro k
  induction k with
  | zero => intro _ e he; cases he
  | succ k ih =>
    intro h e he
    have hn : L[k]? = some L[k] := List.getElem?_eq_getElem (by omega)
    have hi := ih (by omega)
    rw [emL_succ hn] at he
    rcases List.mem_append.1 he with q | q
    · exact hi e q
    · rw [List.mem_singleton.1 q]
      have hm := List.mem_of_getElem? hn
      refine emN_ok (ha _ hm) (fun g => ?_) (fun g => ?_) (hr _ hm)
      · obtain ⟨j, _, _, hj⟩ := kE_at (r := r) hk hn (show 0 < arN L[k].op by omega)
        exact hi _ (List.mem_of_getElem? hj)
      · obtain ⟨j, _, _, hj⟩ := kE_at (r := r) hk hn (show 1 < arN L[k].op by omega)
        exact hi _ (List.mem_of_getElem? hj)
theorem emL_mono {kd : Nat → List Nat} {r r' : ByteArray → Em} {L : List Nd} (hk : Kds kd L) (ha : ∀ n ∈ L, alE n = 0) (hr : ∀ n ∈ L, n.op = 6 → OkE (r n.tx) ∧ OkE (r' n.tx) ∧ LeE (r n.tx) (r' n.tx)) : ∀ k, k ≤ L.length → ∀ (j : Nat) e e', (emL kd r L k)[j]? = some e → (emL kd r' L k)[j]? = some e' → LeE e e' := by
  intro k
  induction k with
  | zero => intro _ j e e' h; cases h
  | succ k ih =>
    intro h j e e' h1 h2
    have hn : L[k]? = some L[k] := List.getElem?_eq_getElem (by omega)
    have hm := List.mem_of_getElem? hn
    have hi := ih (by omega)
    have l1 := emL_len (kd := kd) (r := r) (L := L) k (by omega)
    have l2 := emL_len (kd := kd) (r := r') (L := L) k (by omega)
    have o1 := emL_ok (r := r) hk ha (fun n hn h6 => (hr n hn h6).1) k (by omega)
    have o2 := emL_ok (r := r') hk ha (fun n hn h6 => (hr n hn h6).2.1) k (by omega)
    rw [emL_succ hn] at h1 h2
    by_cases q : j < k
    · rw [List.getElem?_append_left (by omega)] at h1 h2
      exact hi j e e' h1 h2
    · rw [List.getElem?_append_right (by omega)] at h1 h2
      have hj : j - k = 0 := by
        apply Nat.eq_zero_of_not_pos
        intro hp
        rw [l1, List.getElem?_eq_none (by show 1 ≤ j - k; omega)] at h1
        cases h1
      rw [l1, hj] at h1
      rw [l2, hj] at h2
      cases h1
      cases h2
      refine emN_mono (ha _ hm) (fun g => ?_) (fun g => ?_) (fun h6 => (hr _ hm h6).2.2)
      · obtain ⟨a, _, a1, a2⟩ := kE_at (r := r) hk hn (show 0 < arN L[k].op by omega)
        obtain ⟨b, _, b1, b2⟩ := kE_at (r := r') hk hn (show 0 < arN L[k].op by omega)
        rw [a1] at b1
        cases b1
        exact ⟨o1 _ (List.mem_of_getElem? a2), o2 _ (List.mem_of_getElem? b2), hi a _ _ a2 b2⟩
      · obtain ⟨a, _, a1, a2⟩ := kE_at (r := r) hk hn (show 1 < arN L[k].op by omega)
        obtain ⟨b, _, b1, b2⟩ := kE_at (r := r') hk hn (show 1 < arN L[k].op by omega)
        rw [a1] at b1
        cases b1
        exact ⟨o1 _ (List.mem_of_getElem? a2), o2 _ (List.mem_of_getElem? b2), hi a _ _ a2 b2⟩
end Go.Proofs.Ytbipjdgholdhcaa.T

namespace Go.Proofs.Ytbipjdgholdhcaa.T
open Go.RowKit
/-- What is known of a name, by what is known of the rules. -/
def lkE (gs : GL) (now : List Em) (s : ByteArray) : Em := match fdG gs s with
  | none => e0
  | some k => (now[k]?).getD e0
/-- Of a pattern: of its last node. -/
def laE (kd : Nat → List Nat) (r : ByteArray → Em) (L : List Nd) : Em := ((emL kd r L L.length).getLast?).getD e0
/-- One round; bd: is the rule's greatest length bounded at all? -/
def rdE (gs : GL) (kd : List Nd → Nat → List Nat) (bd : Nat → Bool) (now : List Em) : List Em := gs.mapIdx fun i g => if bd i then laE (kd g.2) (lkE gs now) g.2 else { laE (kd g.2) (lkE gs now) g.2 with mo := -1 }
def knE (gs : GL) (kd : List Nd → Nat → List Nat) (bd : Nat → Bool) : Nat → List Em
  | 0 => List.replicate gs.length eB
  | m + 1 => rdE gs kd bd (knE gs kd bd m)
theorem rdE_len {gs : GL} {kd : List Nd → Nat → List Nat} {bd : Nat → Bool} {now : List Em} : (rdE gs kd bd now).length = gs.length := by unfold rdE; rw [List.length_mapIdx]
theorem rdE_get {gs : GL} {kd : List Nd → Nat → List Nat} {bd : Nat → Bool} {now : List Em} {i : Nat} {g : ByteArray × List Nd} (h : gs[i]? = some g) : (rdE gs kd bd now)[i]? = some (if bd i then laE (kd g.2) (lkE gs now) g.2 else { laE (kd g.2) (lkE gs now) g.2 with mo := -1 }) := by
  unfold rdE
  rw [List.getElem?_mapIdx, h]
  rfl
/-- As much is known as there are rules, and it hangs together. -/
structure OkN (gs : GL) (now : List Em) : Prop where
  n : now.length = gs.length
  o : ∀ e ∈ now, OkE e
def LeN (a b : List Em) : Prop := ∀ (i : Nat) x y, a[i]? = some x → b[i]? = some y → LeE x y
/-- A right grammar, and the parts of its patterns. -/
structure GK (gs : GL) (kd : List Nd → Nat → List Nat) : Prop where
  r : RtG gs
  k : ∀ g ∈ gs, Kds (kd g.2) g.2
theorem lk_ok {gs : GL} (hg : RtG gs) {now : List Em} (h : OkN gs now) {g : ByteArray × List Nd} (hm : g ∈ gs) {n : Nd} (hn : n ∈ g.2) (h6 : n.op = 6) : ∃ k e, fdG gs n.tx = some k ∧ now[k]? = some e ∧ lkE gs now n.tx = e ∧ OkE e := by
  obtain ⟨k, hk⟩ := hg.dn.c g hm n hn h6
  have hlt := fdG_lt hk
  have hl := h.n
  have e : now[k]? = some now[k] := List.getElem?_eq_getElem (by omega)
  refine ⟨k, _, hk, e, ?_, h.o _ (List.mem_of_getElem? e)⟩
  unfold lkE
  rw [hk]
  show (now[k]?).getD e0 = _
  rw [e]
  rfl
theorem body_pos {gs : GL} (hg : RtG gs) {g : ByteArray × List Nd} (hm : g ∈ gs) : 0 < g.2.length := by
  have h := (rt_of (hg.ck g hm)).one
  rcases Nat.eq_zero_or_pos g.2.length with q | q
  · rw [List.eq_nil_of_length_eq_zero q] at h
    simp [run] at h
  · exact q
theorem la_at {kd : Nat → List Nat} {r : ByteArray → Em} {L : List Nd} (h0 : 0 < L.length) : (emL kd r L L.length)[L.length - 1]? = some (laE kd r L) := by
  have hl := emL_len (kd := kd) (r := r) (L := L) L.length (Nat.le_refl _)
  have e : (emL kd r L L.length)[L.length - 1]? = some _ := List.getElem?_eq_getElem (by omega)
  unfold laE
  rw [List.getLast?_eq_getElem?, hl, e]
  rfl
theorem la_ok {gs : GL} {kd : List Nd → Nat → List Nat} (hg : GK gs kd) {now : List Em} (h : OkN gs now) {g : ByteArray × List Nd} (hm : g ∈ gs) : OkE (laE (kd g.2) (lkE gs now) g.2) := by
  refine emL_ok (hg.k g hm) (al_of (hg.r.ck g hm)) (fun n hn h6 => ?_) _ (Nat.le_refl _) _ (List.mem_of_getElem? (la_at (body_pos hg.r hm)))
  obtain ⟨_, e, _, _, h3, h4⟩ := lk_ok hg.r h hm hn h6
  rw [h3]; exact h4
theorem ok_cut {e : Em} (h : OkE e) : OkE { e with mo := -1 } := ⟨h.l1, h.l2, Int.le_refl _, by show (-1 : Int) ≤ _; decide, h.z, fun _ q => absurd q (by show ¬ (0 : Int) ≤ -1; decide)⟩
theorem rdE_ok {gs : GL} {kd : List Nd → Nat → List Nat} (hg : GK gs kd) {bd : Nat → Bool} {now : List Em} (h : OkN gs now) : OkN gs (rdE gs kd bd now) := by
  refine ⟨rdE_len, fun e he => ?_⟩
  obtain ⟨i, hi⟩ := List.getElem?_of_mem he
  have hlt := (List.getElem?_eq_some_iff.1 hi).1
  rw [rdE_len] at hlt
  have hgi : gs[i]? = some gs[i] := List.getElem?_eq_getElem hlt
  rw [rdE_get hgi] at hi
  have hm := List.mem_of_getElem? hgi
  have ho := la_ok hg h hm
  have hi : (if bd i then laE (kd gs[i].2) (lkE gs now) gs[i].2 else { laE (kd gs[i].2) (lkE gs now) gs[i].2 with mo := -1 }) = e := Option.some.inj hi
  rw [← hi]
  split
  · exact ho
  · exact ok_cut ho
theorem rdE_mono {gs : GL} {kd : List Nd → Nat → List Nat} (hg : GK gs kd) {bd : Nat → Bool} {a b : List Em} (ha : OkN gs a) (hb : OkN gs b) (h : LeN a b) : LeN (rdE gs kd bd a) (rdE gs kd bd b) := by
  intro i x y hx hy
  have hlt := (List.getElem?_eq_some_iff.1 hx).1
  rw [rdE_len] at hlt
  have hgi : gs[i]? = some gs[i] := List.getElem?_eq_getElem hlt
  have hm := List.mem_of_getElem? hgi
  have hp := body_pos hg.r hm
  have hl : LeE (laE (kd gs[i].2) (lkE gs a) gs[i].2) (laE (kd gs[i].2) (lkE gs b) gs[i].2) := by
    refine emL_mono (hg.k _ hm) (al_of (hg.r.ck _ hm)) (fun n hn h6 => ?_) _ (Nat.le_refl _) (gs[i].2.length - 1) _ _ (la_at hp) (la_at hp)
    obtain ⟨k, e, h1, h2, h3, h4⟩ := lk_ok hg.r ha hm hn h6
    obtain ⟨k', e', g1, g2, g3, g4⟩ := lk_ok hg.r hb hm hn h6
    rw [h1] at g1
    cases g1
    rw [h3, g3]
    exact ⟨h4, g4, h k e e' h2 g2⟩
  rw [rdE_get hgi] at hx hy
  cases hbd : bd i with
  | true =>
    rw [hbd] at hx hy
    have hx : laE (kd gs[i].2) (lkE gs a) gs[i].2 = x := Option.some.inj hx
    have hy : laE (kd gs[i].2) (lkE gs b) gs[i].2 = y := Option.some.inj hy
    rw [← hx, ← hy]
    exact hl
  | false =>
    rw [hbd] at hx hy
    have hx : ({ laE (kd gs[i].2) (lkE gs a) gs[i].2 with mo := -1 } : Em) = x := Option.some.inj hx
    have hy : ({ laE (kd gs[i].2) (lkE gs b) gs[i].2 with mo := -1 } : Em) = y := Option.some.inj hy
    rw [← hx, ← hy]
    exact ⟨hl.n, hl.c, hl.l, Int.le_refl _⟩
theorem okN_0 (gs : GL) : OkN gs (List.replicate gs.length eB) := ⟨List.length_replicate, fun e he => by rw [List.eq_of_mem_replicate he]; exact okB⟩
theorem bot_N {gs : GL} {z : List Em} (hz : OkN gs z) : LeN (List.replicate gs.length eB) z := fun i x y hx hy => by
  have e := List.eq_of_mem_replicate (List.mem_of_getElem? hx)
  rw [e]
  exact LeE.bot (hz.o y (List.mem_of_getElem? hy))
theorem knE_ok {gs : GL} {kd : List Nd → Nat → List Nat} (hg : GK gs kd) (bd : Nat → Bool) : ∀ m, OkN gs (knE gs kd bd m) := by
  intro m
  induction m with
  | zero => exact okN_0 gs
  | succ m ih => exact rdE_ok hg ih
theorem knE_up {gs : GL} {kd : List Nd → Nat → List Nat} (hg : GK gs kd) (bd : Nat → Bool) : ∀ m, LeN (knE gs kd bd m) (knE gs kd bd (m + 1)) := by
  intro m
  induction m with
  | zero => exact bot_N (knE_ok hg bd 1)
  | succ m ih => exact rdE_mono hg (knE_ok hg bd m) (knE_ok hg bd (m + 1)) ih
/-- How much is not known yet, of all rules. -/
def wN (a : List Em) : Nat := (a.map wE).sum
theorem wN_le : ∀ (a b : List Em), a.length = b.length → (∀ e ∈ a, OkE e) → (∀ e ∈ b, OkE e) → LeN a b → wN b ≤ wN a ∧ (a ≠ b → wN b < wN a) := by
  intro a
  induction a with
  | nil =>
    intro b hl _ _ _
    have : b = [] := List.eq_nil_of_length_eq_zero hl.symm
    subst this
    exact ⟨Nat.le_refl _, fun h => absurd rfl h⟩
  | cons x a ih =>
    intro b hl ha hb h
    cases b with
    | nil => cases hl
    | cons y b =>
      have hxy := h 0 x y rfl rfl
      have ox := ha x List.mem_cons_self
      have oy := hb y List.mem_cons_self
      obtain ⟨i1, i2⟩ := ih b (by simpa using hl) (fun e he => ha e (List.mem_cons_of_mem _ he)) (fun e he => hb e (List.mem_cons_of_mem _ he)) (fun i u v hu hv => h (i + 1) u v (by simpa using hu) (by simpa using hv))
      have w1 := wE_le ox oy hxy
      have e1 : wN (x :: a) = wE x + wN a := by unfold wN; rw [List.map_cons, List.sum_cons]
      have e2 : wN (y :: b) = wE y + wN b := by unfold wN; rw [List.map_cons, List.sum_cons]
      rw [e1, e2]
      refine ⟨by omega, fun hne => ?_⟩
      by_cases q : x = y
      · have : a ≠ b := fun e => hne (by rw [q, e])
        have := i2 this
        omega
      · have := wE_less ox oy hxy q
        omega
/-- A round that changes something leaves less to be known. -/
theorem knE_less {gs : GL} {kd : List Nd → Nat → List Nat} (hg : GK gs kd) (bd : Nat → Bool) (m : Nat) (hne : knE gs kd bd m ≠ knE gs kd bd (m + 1)) : wN (knE gs kd bd (m + 1)) < wN (knE gs kd bd m) :=
  (wN_le _ _ (by rw [(knE_ok hg bd m).n, (knE_ok hg bd (m + 1)).n]) (knE_ok hg bd m).o (knE_ok hg bd (m + 1)).o (knE_up hg bd m)).2 hne
end Go.Proofs.Ytbipjdgholdhcaa.T

namespace Go.Proofs.Ytbipjdgholdhcaa.N
open Go.RowKit
/-- A table of what comes to what. -/
structure IsR (n : Nat) (c r : Mx) : Prop where
  cl : ∀ i j, c i j = true → i < n ∧ j < n
  rl : ∀ i j, i < n → j < n → (r i j = true ↔ Rc n c i j)
end Go.Proofs.Ytbipjdgholdhcaa.N

namespace Go.Proofs.Ytbipjdgholdhcaa.N
open Go.RowKit
theorem cn_set : ∀ (l : List Bool) (j : Nat), l[j]? = some false → (l.set j true).count false + 1 = l.count false := by
  intro l
  induction l with
  | nil => intro j h; cases h
  | cons a l ih =>
    intro j h
    cases j with
    | zero =>
      cases h
      rw [List.set_cons_zero, List.count_cons_of_ne (by decide), List.count_cons_self]
    | succ j =>
      have h2 : l[j]? = some false := by simpa using h
      rw [List.set_cons_succ, List.count_cons, List.count_cons]
      have := ih j h2
      omega
end Go.Proofs.Ytbipjdgholdhcaa.N

namespace Go.Proofs.Ytbipjdgholdhcaa.T
open Go.RowKit
/-- The same but for the greatest length. -/
def eqL (a b : Em) : Prop := a.nu = b.nu ∧ a.cf = b.cf ∧ a.le = b.le
theorem eqL.refl (a : Em) : eqL a a := ⟨rfl, rfl, rfl⟩
theorem eqL.ext {a b : Em} (h : eqL a b) (hm : a.mo = b.mo) : a = b := Em.ext' h.1 h.2.1 h.2.2 hm
theorem emN_L {n : Nd} {x y x' y' : Em} {r r' : ByteArray → Em} (hx : eqL x x') (hy : eqL y y') (hr : n.op = 6 → eqL (r n.tx) (r' n.tx)) : eqL (emN n x y r) (emN n x' y' r') := by
  obtain ⟨a1, a2, a3⟩ := hx
  obtain ⟨b1, b2, b3⟩ := hy
  unfold emN
  by_cases c1 : n.op = 1 ∨ n.op = 17 ∨ ((n.op = 14 ∨ n.op = 16) ∧ n.nn = 0)
  · rw [if_pos c1, if_pos c1]; exact eqL.refl _
  rw [if_neg c1, if_neg c1]
  by_cases c2 : n.op = 9 ∨ (n.op = 15 ∧ n.nn = 0)
  · rw [if_pos c2, if_pos c2]; exact ⟨rfl, rfl, rfl⟩
  rw [if_neg c2, if_neg c2]
  by_cases c3 : n.op = 2
  · rw [if_pos c3, if_pos c3]; exact eqL.refl _
  rw [if_neg c3, if_neg c3]
  by_cases c4 : n.op = 3 ∨ n.op = 5
  · rw [if_pos c4, if_pos c4]; exact eqL.refl _
  rw [if_neg c4, if_neg c4]
  by_cases c5 : n.op = 4
  · rw [if_pos c5, if_pos c5]; exact eqL.refl _
  rw [if_neg c5, if_neg c5]
  by_cases c6 : n.op = 6
  · rw [if_pos c6, if_pos c6]; exact hr c6
  rw [if_neg c6, if_neg c6]
  by_cases c7 : n.op = 7
  · rw [if_pos c7, if_pos c7]; exact ⟨by show (_ && _) = (_ && _); rw [a1, b1], by show (_ || _) = (_ || _); rw [a2, b2], by show leC _ = leC _; rw [a3, b3]⟩
  rw [if_neg c7, if_neg c7]
  by_cases c8 : n.op = 8
  · rw [if_pos c8, if_pos c8]; exact ⟨by show (_ || _) = (_ || _); rw [a1, b1], by show (_ && _) = (_ && _); rw [a2, b2], by show lesE _ _ = lesE _ _; rw [a3, b3]⟩
  rw [if_neg c8, if_neg c8]
  by_cases c10 : n.op = 10
  · rw [if_pos c10, if_pos c10]; exact ⟨a1, a2, a3⟩
  rw [if_neg c10, if_neg c10]
  by_cases c11 : n.op = 11
  · rw [if_pos c11, if_pos c11]; exact ⟨rfl, rfl, rfl⟩
  rw [if_neg c11, if_neg c11]
  by_cases c12 : n.op = 12
  · rw [if_pos c12, if_pos c12]; exact ⟨rfl, a2, rfl⟩
  rw [if_neg c12, if_neg c12]
  by_cases c13 : n.op = 13
  · rw [if_pos c13, if_pos c13]; exact eqL.refl _
  rw [if_neg c13, if_neg c13]
  by_cases c14 : n.op = 14
  · rw [if_pos c14, if_pos c14]; exact ⟨a1, a2, by show leC _ = leC _; rw [a3]⟩
  rw [if_neg c14, if_neg c14]
  by_cases c15 : n.op = 15
  · rw [if_pos c15, if_pos c15]; exact ⟨a1, a2, by show leC _ = leC _; rw [a3]⟩
  rw [if_neg c15, if_neg c15]
  by_cases c16 : n.op = 16
  · rw [if_pos c16, if_pos c16]; exact ⟨rfl, rfl, rfl⟩
  rw [if_neg c16, if_neg c16]
  exact ⟨a1, a2, a3⟩
theorem emN_M {n : Nd} {x y x' y' : Em} {r r' : ByteArray → Em} (hx : x.mo = x'.mo) (hy : y.mo = y'.mo) (hr : n.op = 6 → (r n.tx).mo = (r' n.tx).mo) : (emN n x y r).mo = (emN n x' y' r').mo := by
  unfold emN
  by_cases c1 : n.op = 1 ∨ n.op = 17 ∨ ((n.op = 14 ∨ n.op = 16) ∧ n.nn = 0)
  · rw [if_pos c1, if_pos c1]
  rw [if_neg c1, if_neg c1]
  by_cases c2 : n.op = 9 ∨ (n.op = 15 ∧ n.nn = 0)
  · rw [if_pos c2, if_pos c2]; show agE _ = agE _; rw [hx]
  rw [if_neg c2, if_neg c2]
  by_cases c3 : n.op = 2
  · rw [if_pos c3, if_pos c3]
  rw [if_neg c3, if_neg c3]
  by_cases c4 : n.op = 3 ∨ n.op = 5
  · rw [if_pos c4, if_pos c4]
  rw [if_neg c4, if_neg c4]
  by_cases c5 : n.op = 4
  · rw [if_pos c5, if_pos c5]
  rw [if_neg c5, if_neg c5]
  by_cases c6 : n.op = 6
  · rw [if_pos c6, if_pos c6]; exact hr c6
  rw [if_neg c6, if_neg c6]
  by_cases c7 : n.op = 7
  · rw [if_pos c7, if_pos c7]; show moC _ = moC _; rw [hx, hy]
  rw [if_neg c7, if_neg c7]
  by_cases c8 : n.op = 8
  · rw [if_pos c8, if_pos c8]; show greE _ _ = greE _ _; rw [hx, hy]
  rw [if_neg c8, if_neg c8]
  by_cases c10 : n.op = 10
  · rw [if_pos c10, if_pos c10]; show agE _ = agE _; rw [hx]
  rw [if_neg c10, if_neg c10]
  by_cases c11 : n.op = 11
  · rw [if_pos c11, if_pos c11]; exact hx
  rw [if_neg c11, if_neg c11]
  by_cases c12 : n.op = 12
  · rw [if_pos c12, if_pos c12]
  rw [if_neg c12, if_neg c12]
  by_cases c13 : n.op = 13
  · rw [if_pos c13, if_pos c13]
  rw [if_neg c13, if_neg c13]
  by_cases c14 : n.op = 14
  · rw [if_pos c14, if_pos c14]; show moC _ = moC _; rw [hx]
  rw [if_neg c14, if_neg c14]
  by_cases c15 : n.op = 15
  · rw [if_pos c15, if_pos c15]; show agE _ = agE _; rw [hx]
  rw [if_neg c15, if_neg c15]
  by_cases c16 : n.op = 16
  · rw [if_pos c16, if_pos c16]; show moC _ = moC _; rw [hx]
  rw [if_neg c16, if_neg c16]
  exact hx
/-- Two lists side by side. -/
def Sd (P : Em → Em → Prop) (a b : List Em) : Prop := a.length = b.length ∧ ∀ (i : Nat) x y, a[i]? = some x → b[i]? = some y → P x y
theorem Sd.get {P : Em → Em → Prop} (hP : ∀ a, P a a) {a b : List Em} (h : Sd P a b) (i : Nat) : P ((a[i]?).getD e0) ((b[i]?).getD e0) := by
  by_cases hi : i < a.length
  · have hb : i < b.length := by have := h.1; omega
    have e1 : a[i]? = some a[i] := List.getElem?_eq_getElem hi
    have e2 : b[i]? = some b[i] := List.getElem?_eq_getElem hb
    rw [e1, e2]
    exact h.2 i _ _ e1 e2
  · rw [List.getElem?_eq_none (by omega), List.getElem?_eq_none (by have := h.1; omega)]
    exact hP _
theorem Sd.push {P : Em → Em → Prop} {a b : List Em} {x y : Em} (h : Sd P a b) (hx : P x y) : Sd P (a ++ [x]) (b ++ [y]) := by
  have hl := h.1
  refine ⟨by rw [List.length_append, List.length_append, hl]; rfl, fun i u v hu hv => ?_⟩
  by_cases hi : i < a.length
  · rw [List.getElem?_append_left hi] at hu
    rw [List.getElem?_append_left (by omega)] at hv
    exact h.2 i u v hu hv
  · rw [List.getElem?_append_right (by omega)] at hu
    rw [List.getElem?_append_right (by omega)] at hv
    have e : i - a.length = 0 := by
      have := (List.getElem?_eq_some_iff.1 hu).1
      have h1 : [x].length = 1 := rfl
      omega
    rw [e] at hu
    rw [← hl, e] at hv
    cases hu
    cases hv
    exact hx
theorem emL_Sd {P : Em → Em → Prop} (hP : ∀ a, P a a) (hN : ∀ (n : Nd) (x y x' y' : Em) (r r' : ByteArray → Em), P x x' → P y y' → (n.op = 6 → P (r n.tx) (r' n.tx)) → P (emN n x y r) (emN n x' y' r')) {kd : Nat → List Nat} {r r' : ByteArray → Em} {L : List Nd} (hr : ∀ n ∈ L, n.op = 6 → P (r n.tx) (r' n.tx)) : ∀ k, Sd P (emL kd r L k) (emL kd r' L k) := by
  intro k
  induction k with
  | zero => exact ⟨rfl, fun i x y hx => by cases hx⟩
  | succ k ih =>
    cases hn : L[k]? with
    | none =>
      have e1 : emL kd r L (k + 1) = emL kd r L k := by rw [emL, hn]
      have e2 : emL kd r' L (k + 1) = emL kd r' L k := by rw [emL, hn]
      rw [e1, e2]; exact ih
    | some n =>
      rw [emL_succ hn, emL_succ hn]
      have hk : ∀ i, P (kE (emL kd r L k) (kd k) i) (kE (emL kd r' L k) (kd k) i) := fun i => by
        unfold kE
        cases (kd k)[i]? with
        | none => exact hP _
        | some j => exact ih.get hP j
      exact ih.push (hN n _ _ _ _ r r' (hk 0) (hk 1) (hr n (List.mem_of_getElem? hn)))
theorem laE_Sd {P : Em → Em → Prop} (hP : ∀ a, P a a) (hN : ∀ (n : Nd) (x y x' y' : Em) (r r' : ByteArray → Em), P x x' → P y y' → (n.op = 6 → P (r n.tx) (r' n.tx)) → P (emN n x y r) (emN n x' y' r')) {kd : Nat → List Nat} {r r' : ByteArray → Em} {L : List Nd} (hr : ∀ n ∈ L, n.op = 6 → P (r n.tx) (r' n.tx)) : P (laE kd r L) (laE kd r' L) := by
  have h := emL_Sd hP hN (kd := kd) hr L.length
  unfold laE
  rw [List.getLast?_eq_getElem?, List.getLast?_eq_getElem?, ← h.1]
  exact h.get hP _
/-- A rule's greatest length hangs on those of the rules that it calls. -/
theorem rdE_L {gs : GL} {kd : List Nd → Nat → List Nat} {bd : Nat → Bool} {a b : List Em} (h : Sd eqL a b) : Sd eqL (rdE gs kd bd a) (rdE gs kd bd b) := by
  refine ⟨by rw [rdE_len, rdE_len], fun i x y hx hy => ?_⟩
  have hlt := (List.getElem?_eq_some_iff.1 hx).1
  rw [rdE_len] at hlt
  have hgi : gs[i]? = some gs[i] := List.getElem?_eq_getElem hlt
  rw [rdE_get hgi] at hx hy
  have hl : eqL (laE (kd gs[i].2) (lkE gs a) gs[i].2) (laE (kd gs[i].2) (lkE gs b) gs[i].2) := laE_Sd eqL.refl (fun n x y x' y' r r' h1 h2 h3 => emN_L h1 h2 h3) (fun n _ _ => by
    unfold lkE
    cases fdG gs n.tx with
    | none => exact eqL.refl _
    | some k => exact h.get eqL.refl k)
  have hx : (if bd i then laE (kd gs[i].2) (lkE gs a) gs[i].2 else { laE (kd gs[i].2) (lkE gs a) gs[i].2 with mo := -1 }) = x := Option.some.inj hx
  have hy : (if bd i then laE (kd gs[i].2) (lkE gs b) gs[i].2 else { laE (kd gs[i].2) (lkE gs b) gs[i].2 with mo := -1 }) = y := Option.some.inj hy
  rw [← hx, ← hy]
  cases bd i
  · exact hl
  · exact hl
def moA (a : List Em) (i : Nat) : Int := ((a[i]?).getD e0).mo
theorem rdE_M {gs : GL} {kd : List Nd → Nat → List Nat} {bd : Nat → Bool} {a b : List Em} {i : Nat} (hi : i < gs.length) (h : bd i = true → ∀ j, cG gs i j = true → moA a j = moA b j) : moA (rdE gs kd bd a) i = moA (rdE gs kd bd b) i := by
  have hgi : gs[i]? = some gs[i] := List.getElem?_eq_getElem hi
  unfold moA
  rw [rdE_get hgi, rdE_get hgi]
  show (if bd i then laE (kd gs[i].2) (lkE gs a) gs[i].2 else { laE (kd gs[i].2) (lkE gs a) gs[i].2 with mo := -1 }).mo = (if bd i then laE (kd gs[i].2) (lkE gs b) gs[i].2 else { laE (kd gs[i].2) (lkE gs b) gs[i].2 with mo := -1 }).mo
  cases hb : bd i with
  | false => rfl
  | true =>
    show (laE (kd gs[i].2) (lkE gs a) gs[i].2).mo = (laE (kd gs[i].2) (lkE gs b) gs[i].2).mo
    refine laE_Sd (P := fun x y => x.mo = y.mo) (fun _ => rfl) (fun n x y x' y' r r' h1 h2 h3 => emN_M h1 h2 h3) (fun n hn h6 => ?_)
    show (lkE gs a n.tx).mo = (lkE gs b n.tx).mo
    unfold lkE
    cases hf : fdG gs n.tx with
    | none => rfl
    | some k =>
      refine h hb k ?_
      unfold cG
      rw [hgi]
      simp only [List.any_eq_true, Bool.and_eq_true, decide_eq_true_eq]
      exact ⟨n, hn, h6, hf⟩
/-- The program begins with 0 where the greatest length is bounded at all. -/
def eP : Em := ⟨false, false, -1, 0⟩
def pgS (gs : GL) (bd : Nat → Bool) : List Em := (List.range gs.length).map fun i => if bd i then eP else eB
def pgE (gs : GL) (kd : List Nd → Nat → List Nat) (bd : Nat → Bool) : Nat → List Em
  | 0 => pgS gs bd
  | m + 1 => rdE gs kd bd (pgE gs kd bd m)
theorem pgS_len (gs : GL) (bd : Nat → Bool) : (pgS gs bd).length = gs.length := by unfold pgS; rw [List.length_map, List.length_range]
theorem okP : OkE eP := ⟨by decide, by decide, by decide, by decide, ⟨(fun h => by cases h), (fun h => by cases h)⟩, (fun h => by cases h)⟩
theorem pgE_ok {gs : GL} {kd : List Nd → Nat → List Nat} (hg : GK gs kd) (bd : Nat → Bool) : ∀ m, OkN gs (pgE gs kd bd m) := by
  intro m
  induction m with
  | zero =>
    refine ⟨pgS_len gs bd, fun e he => ?_⟩
    obtain ⟨i, _, rfl⟩ := List.mem_map.1 he
    split
    · exact okP
    · exact okB
  | succ m ih => exact rdE_ok hg ih
theorem pgE_L (gs : GL) (kd : List Nd → Nat → List Nat) (bd : Nat → Bool) : ∀ m, Sd eqL (pgE gs kd bd m) (knE gs kd bd m) := by
  intro m
  induction m with
  | zero =>
    refine ⟨by show (pgS gs bd).length = (List.replicate gs.length eB).length; rw [pgS_len, List.length_replicate], fun i x y hx hy => ?_⟩
    have e2 := List.eq_of_mem_replicate (List.mem_of_getElem? hy)
    obtain ⟨j, _, rfl⟩ := List.mem_map.1 (List.mem_of_getElem? hx)
    rw [e2]
    split
    · exact ⟨rfl, rfl, rfl⟩
    · exact eqL.refl _
  | succ m ih => exact rdE_L ih
end Go.Proofs.Ytbipjdgholdhcaa.T

namespace Go.Proofs.Ytbipjdgholdhcaa.N
open Go.RowKit
open Go.Proofs.Ytbipjdgholdhcaa.T

/-- How many rules a rule comes to. -/
def ctR (n : Nat) (R : Nat → Nat → Bool) (i : Nat) : Nat := ((List.range n).filter fun j => R i j).length
theorem ctR_le (n : Nat) (R : Nat → Nat → Bool) (i : Nat) : ctR n R i ≤ n := by
  unfold ctR
  have := List.length_filter_le (fun j => R i j) (List.range n)
  rw [List.length_range] at this
  exact this
theorem filt_lt {p q : Nat → Bool} : ∀ (l : List Nat), (∀ x ∈ l, p x = true → q x = true) → (∃ x ∈ l, q x = true ∧ p x = false) → (l.filter p).length < (l.filter q).length := by
  intro l
  induction l with
  | nil => rintro _ ⟨x, hx, _⟩; cases hx
  | cons a l ih =>
    intro h1 h2
    have hle : ∀ (l : List Nat), (∀ x ∈ l, p x = true → q x = true) → (l.filter p).length ≤ (l.filter q).length := by
      intro l
      induction l with
      | nil => intro _; exact Nat.le_refl _
      | cons b l ih2 =>
        intro h
        have := ih2 (fun x hx => h x (List.mem_cons_of_mem _ hx))
        rw [List.filter_cons, List.filter_cons]
        cases hp : p b with
        | true => rw [h b List.mem_cons_self hp, if_pos rfl, if_pos rfl, List.length_cons, List.length_cons]; omega
        | false =>
          rw [if_neg Bool.noConfusion]
          split
          · rw [List.length_cons]; omega
          · exact this
    rw [List.filter_cons, List.filter_cons]
    obtain ⟨x, hx, hq, hp⟩ := h2
    have hl := hle l (fun y hy => h1 y (List.mem_cons_of_mem _ hy))
    rcases List.mem_cons.1 hx with e | e
    · subst e
      rw [hp, hq, if_neg Bool.noConfusion, if_pos rfl, List.length_cons]
      omega
    · have := ih (fun y hy => h1 y (List.mem_cons_of_mem _ hy)) ⟨x, e, hq, hp⟩
      cases hpa : p a with
      | true => rw [h1 a List.mem_cons_self hpa, if_pos rfl, if_pos rfl, List.length_cons, List.length_cons]; omega
      | false =>
        rw [if_neg Bool.noConfusion]
        split
        · rw [List.length_cons]; omega
        · exact this
/-- What a rule calls comes to fewer, where the one called does not come to itself. -/
theorem ctR_less {n : Nat} {c R : Mx} (h : IsR n c R) {i j : Nat} (hc : c i j = true) (hj : R j j = false) : ctR n R j < ctR n R i := by
  obtain ⟨hi, hjn⟩ := h.cl i j hc
  refine filt_lt _ (fun x hx q => ?_) ⟨j, List.mem_range.2 hjn, (h.rl i j hi hjn).2 (Rc.of hc), hj⟩
  have hx := List.mem_range.1 hx
  exact (h.rl i x hi hx).2 (Rc.trans hjn (Rc.of hc) ((h.rl j x hjn hx).1 q))
theorem moA_out {a : List Em} {i : Nat} (h : a.length ≤ i) : moA a i = 0 := by unfold moA; rw [List.getElem?_eq_none h]; rfl
section
variable {gs : GL} {kd : List Nd → Nat → List Nat} {R : Mx} {bd : Nat → Bool}
theorem mo_cut {a : List Em} {i : Nat} (hi : i < gs.length) (hb : bd i = false) : moA (rdE gs kd bd a) i = -1 := by
  have hgi : gs[i]? = some gs[i] := List.getElem?_eq_getElem hi
  unfold moA
  rw [rdE_get hgi, hb]
  rfl
theorem mo_kn0 {i : Nat} (hi : i < gs.length) : moA (knE gs kd bd 0) i = -1 := by
  unfold moA
  show (((List.replicate gs.length eB)[i]?).getD e0).mo = -1
  rw [List.getElem?_replicate, if_pos hi]
  rfl
theorem mo_pg0 {i : Nat} (hi : i < gs.length) (hb : bd i = false) : moA (pgE gs kd bd 0) i = -1 := by
  unfold moA
  show (((pgS gs bd)[i]?).getD e0).mo = -1
  unfold pgS
  rw [List.getElem?_map, List.getElem?_range hi, Option.map_some, hb]
  rfl
theorem mo_loop {i : Nat} (hi : i < gs.length) (hb : bd i = false) (m : Nat) : moA (knE gs kd bd m) i = -1 ∧ moA (pgE gs kd bd m) i = -1 := by
  cases m with
  | zero => exact ⟨mo_kn0 hi, mo_pg0 hi hb⟩
  | succ m => exact ⟨mo_cut hi hb, mo_cut hi hb⟩
/-- Behind as many rounds as there are rules a greatest length stays, and is the same for both. -/
theorem mo_stay (hR : IsR gs.length (cG gs) R) (hbd : ∀ i, bd i = !(R i i)) : ∀ (b i : Nat), i < gs.length → ctR gs.length R i ≤ b → ∀ m, b + 1 ≤ m → moA (knE gs kd bd (m + 1)) i = moA (knE gs kd bd m) i ∧ moA (pgE gs kd bd (m + 1)) i = moA (pgE gs kd bd m) i ∧ moA (pgE gs kd bd m) i = moA (knE gs kd bd m) i := by
  intro b
  induction b with
  | zero =>
    intro i hi hc m hm
    obtain ⟨m, rfl⟩ : ∃ k, m = k + 1 := ⟨m - 1, by omega⟩
    cases hb : bd i with
    | false => rw [(mo_loop hi hb (m + 1)).1, (mo_loop hi hb (m + 1)).2, (mo_loop hi hb (m + 1 + 1)).1, (mo_loop hi hb (m + 1 + 1)).2]; exact ⟨rfl, rfl, rfl⟩
    | true =>
      have no : ∀ j, cG gs i j ≠ true := fun j q => by
        have h1 : j ∈ (List.range gs.length).filter fun k => R i k := List.mem_filter.2 ⟨List.mem_range.2 (hR.cl i j q).2, (hR.rl i j hi (hR.cl i j q).2).2 (Rc.of q)⟩
        have h2 : 0 < ctR gs.length R i := List.length_pos_of_mem h1
        omega
      exact ⟨rdE_M hi fun _ j q => absurd q (no j), rdE_M hi fun _ j q => absurd q (no j), rdE_M hi fun _ j q => absurd q (no j)⟩
  | succ b ih =>
    intro i hi hc m hm
    obtain ⟨m, rfl⟩ : ∃ k, m = k + 1 := ⟨m - 1, by omega⟩
    have key : bd i = true → ∀ j, cG gs i j = true → moA (knE gs kd bd (m + 1)) j = moA (knE gs kd bd m) j ∧ moA (pgE gs kd bd (m + 1)) j = moA (pgE gs kd bd m) j ∧ moA (pgE gs kd bd m) j = moA (knE gs kd bd m) j := fun _ j q => by
      have hj := (hR.cl i j q).2
      cases hbj : bd j with
      | false => rw [(mo_loop hj hbj m).1, (mo_loop hj hbj m).2, (mo_loop hj hbj (m + 1)).1, (mo_loop hj hbj (m + 1)).2]; exact ⟨rfl, rfl, rfl⟩
      | true =>
        have hjj : R j j = false := by rw [hbd j] at hbj; simpa using hbj
        have hl := ctR_less hR q hjj
        exact ih j hj (by omega) m (by omega)
    exact ⟨rdE_M hi fun hb j q => (key hb j q).1, rdE_M hi fun hb j q => (key hb j q).2.1, rdE_M hi fun hb j q => (key hb j q).2.2⟩
/-- From some round on both know the same. -/
theorem pg_kn (hg : GK gs kd) (hR : IsR gs.length (cG gs) R) (hbd : ∀ i, bd i = !(R i i)) {m : Nat} (hm : gs.length + 1 ≤ m) : pgE gs kd bd m = knE gs kd bd m := by
  have h1 := pgE_ok hg bd m
  have h2 := knE_ok hg bd m
  have hs := pgE_L gs kd bd m
  refine List.ext_getElem? fun i => ?_
  by_cases hi : i < gs.length
  · have i1 : i < (pgE gs kd bd m).length := by rw [h1.n]; exact hi
    have i2 : i < (knE gs kd bd m).length := by rw [h2.n]; exact hi
    have e1 : (pgE gs kd bd m)[i]? = some (pgE gs kd bd m)[i] := List.getElem?_eq_getElem i1
    have e2 : (knE gs kd bd m)[i]? = some (knE gs kd bd m)[i] := List.getElem?_eq_getElem i2
    have hmo := (mo_stay (kd := kd) hR hbd gs.length i hi (ctR_le _ _ _) m hm).2.2
    unfold moA at hmo
    rw [e1, e2] at hmo ⊢
    exact congrArg some ((hs.2 i _ _ e1 e2).ext hmo)
  · rw [List.getElem?_eq_none (by rw [h1.n]; omega), List.getElem?_eq_none (by rw [h2.n]; omega)]
theorem kn_fix {m : Nat} (h : knE gs kd bd (m + 1) = knE gs kd bd m) : ∀ k, knE gs kd bd (m + k) = knE gs kd bd m := by
  intro k
  induction k with
  | zero => rfl
  | succ k ih =>
    show rdE gs kd bd (knE gs kd bd (m + k)) = _
    rw [ih]
    exact h
theorem pg_fix {m : Nat} (h : pgE gs kd bd (m + 1) = pgE gs kd bd m) : ∀ k, pgE gs kd bd (m + k) = pgE gs kd bd m := by
  intro k
  induction k with
  | zero => rfl
  | succ k ih =>
    show rdE gs kd bd (pgE gs kd bd (m + k)) = _
    rw [ih]
    exact h
/-- Both ends are one. -/
theorem ends_one (hg : GK gs kd) (hR : IsR gs.length (cG gs) R) (hbd : ∀ i, bd i = !(R i i)) {a b : Nat} (ha : pgE gs kd bd (a + 1) = pgE gs kd bd a) (hb : knE gs kd bd (b + 1) = knE gs kd bd b) : pgE gs kd bd a = knE gs kd bd b := by
  rw [← pg_fix ha (b + gs.length + 1), ← kn_fix hb (a + gs.length + 1), show b + (a + gs.length + 1) = a + (b + gs.length + 1) from by omega]
  exact pg_kn hg hR hbd (by omega)
/-- How much is left: what is not known yet, and the rounds until the greatest lengths stay. -/
def pgM (gs : GL) (kd : List Nd → Nat → List Nat) (bd : Nat → Bool) (m : Nat) : Nat := wN (knE gs kd bd m) + (gs.length + 1 - m)
theorem pgM_less (hg : GK gs kd) (hR : IsR gs.length (cG gs) R) (hbd : ∀ i, bd i = !(R i i)) {m : Nat} (hne : pgE gs kd bd (m + 1) ≠ pgE gs kd bd m) : pgM gs kd bd (m + 1) < pgM gs kd bd m := by
  have hle := (wN_le _ _ (by rw [(knE_ok hg bd m).n, (knE_ok hg bd (m + 1)).n]) (knE_ok hg bd m).o (knE_ok hg bd (m + 1)).o (knE_up hg bd m)).1
  unfold pgM
  by_cases hm : m < gs.length + 1
  · omega
  · have e1 := pg_kn hg hR hbd (m := m) (by omega)
    have e2 := pg_kn hg hR hbd (m := m + 1) (by omega)
    rw [e1, e2] at hne
    have := knE_less hg bd m (fun e => hne e.symm)
    omega
end
end Go.Proofs.Ytbipjdgholdhcaa.N

namespace Go.Proofs.Ytbipjdgholdhcaa.T
open Go.RowKit
set_option maxRecDepth 100000 in
set_option maxHeartbeats 1000000 in
theorem isDigit_any (c : Int) (w : World) : Calls Try.prog 75 #[.int .u8 c] w fun e w' => e = .returned (.bool (dgB c)) ∧ w' = w := by
  by_cases h : 48 ≤ c
  · have HE : Hid (dgB c = decide (c ≤ 57)) := (by show dgB c = _; unfold dgB; rw [decide_eq_true h]; rfl)
    go_enter Try.func75, Try.ntmps75
    go_wp2
    go_ret
    exact ⟨by rw [HE.out]; rfl, rfl⟩
  · have HE : Hid (dgB c = false) := (by show dgB c = _; unfold dgB; rw [decide_eq_false h]; rfl)
    go_enter Try.func75, Try.ntmps75
    go_wp2
    go_ret
    exact ⟨by rw [HE.out]; rfl, rfl⟩

set_option maxRecDepth 100000 in
set_option maxHeartbeats 1000000 in
theorem isLetter_any (c : Int) (w : World) : Calls Try.prog 76 #[.int .u8 c] w fun e w' => e = .returned (.bool (ltB c)) ∧ w' = w := by
  have HE : Hid (ltB c = ((decide (97 ≤ c) && decide (c ≤ 122)) || (decide (65 ≤ c) && decide (c ≤ 90)))) := rfl
  by_cases h : 97 ≤ c <;> by_cases h1 : c ≤ 122 <;> by_cases h2 : 65 ≤ c <;> by_cases h3 : c ≤ 90
  all_goals
    go_enter Try.func76, Try.ntmps76
    go_wp2
    go_ret
    refine ⟨ret_bool ?_, rfl⟩
    rw [HE.out]
    simp <;> omega

set_option maxRecDepth 100000 in
set_option maxHeartbeats 2000000 in
theorem arity_any (op : Int) (w : World) : Calls Try.prog 23 #[.int .i64 op] w fun e w' => e = .returned (.int .i64 (ar op)) ∧ w' = w := by
  by_cases h1 : op < 1
  · have HE : Hid (ar op = -1) := (by show ar op = _; unfold ar; rw [if_pos (.inl h1)])
    go_enter Try.func23, Try.ntmps23
    go_wp2
    go_ret
    exact ⟨by rw [HE.out]; rfl, rfl⟩
  by_cases h2 : 23 < op
  · have HE : Hid (ar op = -1) := (by show ar op = _; unfold ar; rw [if_pos (.inr h2)])
    go_enter Try.func23, Try.ntmps23
    go_wp2
    go_ret
    exact ⟨by rw [HE.out]; rfl, rfl⟩
  by_cases h3 : op ≤ 6
  · have HE : Hid (ar op = 0) := (by show ar op = _; unfold ar; rw [if_neg (by omega), if_pos (.inl h3)])
    go_enter Try.func23, Try.ntmps23
    go_wp2
    go_ret
    exact ⟨by rw [HE.out]; rfl, rfl⟩
  by_cases h4 : op = 17
  · have HE : Hid (ar op = 0) := (by show ar op = _; unfold ar; rw [if_neg (by omega), if_pos (.inr h4)])
    have e4 : (op == 17) = true := beq_iff_eq.2 h4
    clear h4
    go_enter Try.func23, Try.ntmps23
    go_wp2
    go_ret
    exact ⟨by rw [HE.out]; rfl, rfl⟩
  have e4 : (op == 17) = false := beq_eq_false_iff_ne.2 h4
  by_cases h5 : op = 7
  · have HE : Hid (ar op = 2) := (by show ar op = _; unfold ar; rw [if_neg (by omega), if_neg (by omega), if_pos (.inl h5)])
    have e5 : (op == 7) = true := beq_iff_eq.2 h5
    clear h5 h4
    go_enter Try.func23, Try.ntmps23
    go_wp2
    go_ret
    exact ⟨by rw [HE.out]; rfl, rfl⟩
  have e5 : (op == 7) = false := beq_eq_false_iff_ne.2 h5
  by_cases h6 : op = 8
  · have HE : Hid (ar op = 2) := (by show ar op = _; unfold ar; rw [if_neg (by omega), if_neg (by omega), if_pos (.inr h6)])
    have e6 : (op == 8) = true := beq_iff_eq.2 h6
    clear h6 h5 h4
    go_enter Try.func23, Try.ntmps23
    go_wp2
    go_ret
    exact ⟨by rw [HE.out]; rfl, rfl⟩
  have e6 : (op == 8) = false := beq_eq_false_iff_ne.2 h6
  have HE : Hid (ar op = 1) := (by show ar op = _; unfold ar; rw [if_neg (by omega), if_neg (by omega), if_neg (by omega)])
  clear h6 h5 h4
  go_enter Try.func23, Try.ntmps23
  go_wp2
  go_ret
  exact ⟨by rw [HE.out]; rfl, rfl⟩
end Go.Proofs.Ytbipjdgholdhcaa.T

namespace Go.Proofs.Ytbipjdgholdhcaa.T
open Go.RowKit
set_option maxRecDepth 100000 in
set_option maxHeartbeats 4000000 in
theorem isName_any (s : ByteArray) (hs : s.size ≤ 140737488355328) (w : World) : Calls Try.prog 70 #[.string s] w fun e w' => e = .returned (.bool (nmB s)) ∧ w' = w := by
  have HD : Hid (∀ c w, Calls Try.prog 75 #[.int .u8 c] w fun e w' => e = .returned (.bool (dgB c)) ∧ w' = w) := fun c w => isDigit_any c w
  have HL : Hid (∀ c w, Calls Try.prog 76 #[.int .u8 c] w fun e w' => e = .returned (.bool (ltB c)) ∧ w' = w) := fun c w => isLetter_any c w
  by_cases h0 : s.size = 0
  · have HE : Hid (nmB s = false) := nmB_f (fun h => by have := h.1; omega)
    have q0 := emp_t h0
    clear h0 HD HL hs
    go_enter Try.func70, Try.ntmps70
    go_wp2_with fail
    go_ret
    exact ⟨by rw [HE.out]; rfl, rfl⟩
  have q0 := emp_f h0
  by_cases h1 : 32 < s.size
  · have HE : Hid (nmB s = false) := nmB_f (fun h => by have := h.2.1; omega)
    have z1 : (32 : Int) < (s.size : Int) := by omega
    clear h0 HD HL hs
    go_enter Try.func70, Try.ntmps70
    go_wp2_with fail
    go_ret
    exact ⟨by rw [HE.out]; rfl, rfl⟩
  have z1 : ¬ (32 : Int) < (s.size : Int) := by omega
  have hp : 0 < s.size := by omega
  cases hd : dgB (s[0].toNat : Int) with
  | true =>
    have HE : Hid (nmB s = false) := nmB_f (fun h => by have := h.2.2.1 hp; rw [hd] at this; cases this)
    go_enter Try.func70, Try.ntmps70
    go_wp2_with fail
    refine (HD.out _ _).mono ?_
    rintro e w ⟨rfl, rfl⟩
    rw [hd]
    clear HD HL hd
    go_wp2_with fail
    go_ret
    exact ⟨by rw [HE.out]; rfl, rfl⟩
  | false =>
    have HN : Hid ((∀ (j : Nat) (h : j < s.size), nmC (s[j].toNat : Int) = true) → nmB s = true) := fun h => nmB_t ⟨hp, by omega, fun _ => hd, h⟩
    have HM : Hid (∀ (j : Nat) (h : j < s.size), nmC (s[j].toNat : Int) = false → nmB s = false) := fun j h e => nmB_f (fun q => by have := q.2.2.2 j h; rw [e] at this; cases this)
    go_enter Try.func70, Try.ntmps70
    go_wp2_with fail
    refine (HD.out _ _).mono ?_
    rintro e w ⟨rfl, rfl⟩
    rw [hd]
    clear hd
    go_wp2_with fail
    go_loopw [18] (fun t wr => ∃ k : Nat, k ≤ s.size ∧ t = .int .i64 k ∧ wr = w ∧ Hid (∀ (j : Nat) (h : j < s.size), j < k → nmC (s[j].toNat : Int) = true)) (fun t _ => s.size - (intOf t).toNat)
    case atStart => exact ⟨0, by omega, by go_num, rfl, fun j h q => by omega⟩
    case round =>
      obtain ⟨k, hk, rfl, rfl, HI⟩ := hrel
      by_cases hlt : k < s.size
      · have z3 : (0 : Int) ≤ (k : Int) := by omega
        have z4 : (k : Int) < (s.size : Int) := by omega
        have HC : Hid (nmC (s[k].toNat : Int) = (dgB (s[k].toNat : Int) || ltB (s[k].toNat : Int) || (s[k].toNat : Int) == 95)) := rfl
        cases hd2 : dgB (s[k].toNat : Int) with
        | true =>
          have HI2 : Hid (∀ (j : Nat) (h : j < s.size), j < k + 1 → nmC (s[j].toNat : Int) = true) := fun j h q => by
            by_cases hj : j < k
            · exact HI.out j h hj
            · obtain rfl : j = k := by omega
              rw [HC.out, hd2]; rfl
          clear HI HC HN HM
          go_wp2_with fail
          refine (HD.out _ _).mono ?_
          rintro e w ⟨rfl, rfl⟩
          rw [hd2]
          clear hd2 HD HL
          go_wp2_with fail
          go_roundw
          case rel => exact ⟨k + 1, by omega, by go_num, trivial, HI2⟩
          case measure => simp [intOf]; omega
        | false =>
          cases hl2 : ltB (s[k].toNat : Int) with
          | true =>
            have HI2 : Hid (∀ (j : Nat) (h : j < s.size), j < k + 1 → nmC (s[j].toNat : Int) = true) := fun j h q => by
              by_cases hj : j < k
              · exact HI.out j h hj
              · obtain rfl : j = k := by omega
                rw [HC.out, hd2, hl2]; rfl
            clear HI HC HN HM
            go_wp2_with fail
            refine (HD.out _ _).mono ?_
            rintro e w ⟨rfl, rfl⟩
            rw [hd2]
            clear hd2 HD
            go_wp2_with fail
            refine (HL.out _ _).mono ?_
            rintro e w ⟨rfl, rfl⟩
            rw [hl2]
            clear hl2 HL
            go_wp2_with fail
            go_roundw
            case rel => exact ⟨k + 1, by omega, by go_num, trivial, HI2⟩
            case measure => simp [intOf]; omega
          | false =>
            by_cases h95 : (s[k].toNat : Int) = 95
            · have e95 : ((s[k].toNat : Int) == 95) = true := beq_iff_eq.2 h95
              have HI2 : Hid (∀ (j : Nat) (h : j < s.size), j < k + 1 → nmC (s[j].toNat : Int) = true) := fun j h q => by
                by_cases hj : j < k
                · exact HI.out j h hj
                · obtain rfl : j = k := by omega
                  rw [HC.out, hd2, hl2, e95]; rfl
              clear HI HC HN HM h95
              go_wp2_with fail
              refine (HD.out _ _).mono ?_
              rintro e w ⟨rfl, rfl⟩
              rw [hd2]
              clear hd2 HD
              go_wp2_with fail
              refine (HL.out _ _).mono ?_
              rintro e w ⟨rfl, rfl⟩
              rw [hl2]
              clear hl2 HL
              go_wp2_with fail
              go_roundw
              case rel => exact ⟨k + 1, by omega, by go_num, trivial, HI2⟩
              case measure => simp [intOf]; omega
            · have e95 : ((s[k].toNat : Int) == 95) = false := beq_eq_false_iff_ne.2 h95
              have HE : Hid (nmB s = false) := HM.out k hlt (by rw [HC.out, hd2, hl2, e95]; rfl)
              clear HI HC HN HM h95
              go_wp2_with fail
              refine (HD.out _ _).mono ?_
              rintro e w ⟨rfl, rfl⟩
              rw [hd2]
              clear hd2 HD
              go_wp2_with fail
              refine (HL.out _ _).mono ?_
              rintro e w ⟨rfl, rfl⟩
              rw [hl2]
              clear hl2 HL
              go_wp2_with fail
              go_ret
              exact ⟨by rw [HE.out]; rfl, rfl⟩
      · obtain rfl : k = s.size := by omega
        have HE : Hid (nmB s = true) := HN.out (fun j h => HI.out j h h)
        clear HD HL HN HM HI
        go_wp2_with fail
        go_ret
        exact ⟨by rw [HE.out]; rfl, rfl⟩

theorem tm_end (s : ByteArray) (m i : Nat) (h : ¬ i < s.size) : tmGo s m i = true := by
  cases m with
  | zero => rfl
  | succ m => rw [tmGo, dif_neg h]
theorem tm_plain {s : ByteArray} {m i : Nat} (h : i < s.size) (q : s.size ≤ i + m) (e : ¬ (s[i].toNat : Int) = 37) : ∃ m2, s.size ≤ i + 1 + m2 ∧ tmGo s m i = tmGo s m2 (i + 1) := by
  cases m with
  | zero => omega
  | succ m => exact ⟨m, by omega, by rw [tmGo, dif_pos h, if_neg e]⟩
theorem tm_two {s : ByteArray} {m i : Nat} (h : i < s.size) (q : s.size ≤ i + m) (e : (s[i].toNat : Int) = 37) (h2 : i + 1 < s.size) (d : (s[i + 1].toNat : Int) = 37 ∨ dgB (s[i + 1].toNat : Int) = true) : ∃ m2, s.size ≤ i + 2 + m2 ∧ tmGo s m i = tmGo s m2 (i + 2) := by
  cases m with
  | zero => omega
  | succ m => exact ⟨m, by omega, by rw [tmGo, dif_pos h, if_pos e, dif_pos h2, if_pos d]⟩
theorem tm_cut {s : ByteArray} {m i : Nat} (h : i < s.size) (q : s.size ≤ i + m) (e : (s[i].toNat : Int) = 37) (h2 : ¬ i + 1 < s.size) : tmGo s m i = false := by
  cases m with
  | zero => omega
  | succ m => rw [tmGo, dif_pos h, if_pos e, dif_neg h2]
theorem tm_bad {s : ByteArray} {m i : Nat} (h : i < s.size) (q : s.size ≤ i + m) (e : (s[i].toNat : Int) = 37) (h2 : i + 1 < s.size) (d : ¬ (s[i + 1].toNat : Int) = 37) (d2 : dgB (s[i + 1].toNat : Int) = false) : tmGo s m i = false := by
  cases m with
  | zero => omega
  | succ m => rw [tmGo, dif_pos h, if_pos e, dif_pos h2, if_neg (by rw [d2]; simp only [Bool.false_eq_true, or_false]; exact d)]

set_option maxRecDepth 100000 in
set_option maxHeartbeats 4000000 in
theorem isTemplate_any (s : ByteArray) (hs : s.size ≤ 140737488355328) (w : World) : Calls Try.prog 71 #[.string s] w fun e w' => e = .returned (.bool (tmB s)) ∧ w' = w := by
  have HD : Hid (∀ c w, Calls Try.prog 75 #[.int .u8 c] w fun e w' => e = .returned (.bool (dgB c)) ∧ w' = w) := fun c w => isDigit_any c w
  by_cases h1 : 255 < s.size
  · have HE : Hid (tmB s = false) := (by show tmB s = _; unfold tmB; rw [if_neg (by omega)])
    have z1 : (255 : Int) < (s.size : Int) := by omega
    clear HD hs
    go_enter Try.func71, Try.ntmps71
    go_wp2_with fail
    go_ret
    exact ⟨by rw [HE.out]; rfl, rfl⟩
  have z1 : ¬ (255 : Int) < (s.size : Int) := by omega
  have HB : Hid (tmB s = tmGo s s.size 0) := (by show tmB s = _; unfold tmB; rw [if_pos (by omega)])
  go_enter Try.func71, Try.ntmps71
  go_wp2_with fail
  go_loopw [3] (fun t wr => ∃ k : Nat, k ≤ s.size ∧ t = .int .i64 k ∧ wr = w ∧ Hid (∃ m, s.size ≤ k + m ∧ tmB s = tmGo s m k)) (fun t _ => s.size - (intOf t).toNat)
  case atStart => exact ⟨0, by omega, by go_num, rfl, ⟨s.size, by omega, HB.out⟩⟩
  case round =>
    obtain ⟨k, hk, rfl, rfl, HI⟩ := hrel
    clear HB
    obtain ⟨m, hm, HJ⟩ := HI.out
    have HJ := (show Hid _ from HJ)
    clear HI
    by_cases hlt : k < s.size
    · have z3 : (0 : Int) ≤ (k : Int) := by omega
      have z4 : (k : Int) < (s.size : Int) := by omega
      by_cases h37 : (s[k].toNat : Int) = 37
      · have e37 : ((s[k].toNat : Int) == 37) = true := beq_iff_eq.2 h37
        by_cases h2 : k + 1 < s.size
        · have z5 : ((k : Int) + 1 == (s.size : Int)) = false := beq_eq_false_iff_ne.2 (by omega)
          have z6 : (k : Int) + 1 < (s.size : Int) := by omega
          by_cases g37 : (s[k + 1].toNat : Int) = 37
          · have f37 : ((s[k + 1].toNat : Int) != 37) = false := by rw [bne, beq_iff_eq.2 g37]; rfl
            have HK : Hid (∃ m2, s.size ≤ k + 2 + m2 ∧ tmB s = tmGo s m2 (k + 2)) := by
              obtain ⟨m2, u, v⟩ := tm_two hlt hm h37 h2 (.inl g37)
              exact ⟨m2, u, HJ.out.trans v⟩
            clear HJ h37 g37 HD
            go_wp2_with fail
            go_roundw
            case rel => exact ⟨k + 2, by omega, by go_num, trivial, HK⟩
            case measure => simp [intOf]; omega
          · have f37 : ((s[k + 1].toNat : Int) != 37) = true := by rw [bne, beq_eq_false_iff_ne.2 g37]; rfl
            cases hd : dgB (s[k + 1].toNat : Int) with
            | true =>
              have HK : Hid (∃ m2, s.size ≤ k + 2 + m2 ∧ tmB s = tmGo s m2 (k + 2)) := by
                obtain ⟨m2, u, v⟩ := tm_two hlt hm h37 h2 (.inr hd)
                exact ⟨m2, u, HJ.out.trans v⟩
              clear HJ h37 g37
              go_wp2_with fail
              refine (HD.out _ _).mono ?_
              rintro e w ⟨rfl, rfl⟩
              rw [hd]
              clear hd HD
              go_wp2_with fail
              go_roundw
              case rel => exact ⟨k + 2, by omega, by go_num, trivial, HK⟩
              case measure => simp [intOf]; omega
            | false =>
              have HE : Hid (tmB s = false) := HJ.out.trans (tm_bad hlt hm h37 h2 g37 hd)
              clear HJ h37 g37
              go_wp2_with fail
              refine (HD.out _ _).mono ?_
              rintro e w ⟨rfl, rfl⟩
              rw [hd]
              clear hd HD
              go_wp2_with fail
              go_ret
              exact ⟨by rw [HE.out]; rfl, rfl⟩
        · have z5 : ((k : Int) + 1 == (s.size : Int)) = true := beq_iff_eq.2 (by omega)
          have HE : Hid (tmB s = false) := HJ.out.trans (tm_cut hlt hm h37 h2)
          clear HJ h37 HD
          go_wp2_with fail
          go_ret
          exact ⟨by rw [HE.out]; rfl, rfl⟩
      · have e37 : ((s[k].toNat : Int) == 37) = false := beq_eq_false_iff_ne.2 h37
        have HK : Hid (∃ m2, s.size ≤ k + 1 + m2 ∧ tmB s = tmGo s m2 (k + 1)) := by
          obtain ⟨m2, u, v⟩ := tm_plain hlt hm h37
          exact ⟨m2, u, HJ.out.trans v⟩
        clear HJ h37 HD
        go_wp2_with fail
        go_roundw
        case rel => exact ⟨k + 1, by omega, by go_num, trivial, HK⟩
        case measure => simp [intOf]; omega
    · obtain rfl : k = s.size := by omega
      have HE : Hid (tmB s = true) := HJ.out.trans (tm_end s m _ (by omega))
      clear HD HJ
      go_wp2_with fail
      go_ret
      exact ⟨by rw [HE.out]; rfl, rfl⟩
end Go.Proofs.Ytbipjdgholdhcaa.T

namespace Go.Proofs.Ytbipjdgholdhcaa.T
open Go.RowKit
def seE (a b c d a' b' c' d' : Int) : Bool := (a == a') && ((b == b') && ((c == c') && (d == d')))
theorem tx_ext {a b : ByteArray} (h : a.toList = b.toList) : a = b := by
  rw [ByteArray.toList_eq, ByteArray.toList_eq] at h
  obtain ⟨x⟩ := a
  obtain ⟨y⟩ := b
  have h2 : x.toList = y.toList := h
  rw [Array.ext' h2]
theorem eq41d (m : Nat) (a b c d a' b' c' d' : Int) (w : World) : (Op.equalIn (m + 2) 49 (.agg #[.int .u64 a, .int .u64 b, .int .u64 c, .int .u64 d]) (.agg #[.int .u64 a', .int .u64 b', .int .u64 c', .int .u64 d'])).run Try.prog w = .ok (seE a b c d a' b' c' d') w := by
  have u3 := Try.underlying48
  have a3 := Try.isAgg48
  have z3 := Try.sizeOf48
  rw [Op.equalIn]
  simp only [Sem.run_bind, run_underlying Try.underlying49, Result.andThen_ok]
  simp only [Std.Legacy.Range.forIn_eq_forIn_range', Std.Legacy.Range.size, Nat.sub_zero, Nat.add_sub_cancel, Nat.div_one, List.range'_succ, List.range'_zero, List.forIn_cons, List.forIn_nil]
  unfold seE
  cases ha : (a == a')
  · go_simp
  cases hb : (b == b')
  · go_simp
  cases hc : (c == c')
  · go_simp
  cases hd : (d == d')
  · go_simp
  go_simp

theorem eq41e (a b c d a' b' c' d' : Int) (w : World) : (Op.equalIn 10000 49 (.agg #[.int .u64 a, .int .u64 b, .int .u64 c, .int .u64 d]) (.agg #[.int .u64 a', .int .u64 b', .int .u64 c', .int .u64 d'])).run Try.prog w = .ok (seE a b c d a' b' c' d') w := eq41d 9998 a b c d a' b' c' d' w

theorem set_eql (a b c d a' b' c' d' : Int) (W : World) : (binOp .eql 49 (.agg #[.int .u64 a, .int .u64 b, .int .u64 c, .int .u64 d]) (.agg #[.int .u64 a', .int .u64 b', .int .u64 c', .int .u64 d'])).run Try.prog W = .ok (.bool (seE a b c d a' b' c' d')) W := by
  have h := eq41e a b c d a' b' c' d'
  simp [go_sem, h]
theorem seE_zero (op a b c d : Int) (h : ¬ op = 5) : seE a b c d 0 0 0 0 = seF op a b c d := by
  unfold seE seF
  rw [if_neg h]
  by_cases ha : a = 0 <;> by_cases hb : b = 0 <;> by_cases hc : c = 0 <;> by_cases hd : d = 0 <;> simp [ha, hb, hc, hd]
end Go.Proofs.Ytbipjdgholdhcaa.T

namespace Go.Proofs.Ytbipjdgholdhcaa.T
open Go.RowKit
/-- A node, laid in a block. -/
structure NB (W : World) (g o : Nat) (n : Nd) : Prop where
  c0 : W.cell? ⟨g, o, none⟩ = some (.int .i64 n.op)
  c1 : W.cell? ⟨g, o + 1, none⟩ = some (.int .i64 n.nn)
  c2 : W.cell? ⟨g, o + 2, none⟩ = some (.string n.tx)
  c3 : W.cell? ⟨g, o + 3, none⟩ = some (.int .u64 n.s0)
  c4 : W.cell? ⟨g, o + 4, none⟩ = some (.int .u64 n.s1)
  c5 : W.cell? ⟨g, o + 5, none⟩ = some (.int .u64 n.s2)
  c6 : W.cell? ⟨g, o + 6, none⟩ = some (.int .u64 n.s3)
theorem NB.lt {W : World} {g o : Nat} {n : Nd} (h : NB W g o n) : g < W.heap.size := World.block_lt_of_cell? W _ h.c0
theorem NB.same {W W' : World} {g o : Nat} {n : Nd} (h : NB W g o n) (hb : W'.heap[g]? = W.heap[g]?) : NB W' g o n := by
  have key : ∀ j, W'.cell? ⟨g, j, none⟩ = W.cell? ⟨g, j, none⟩ := fun j => World.cell?_of_block (a := ⟨g, j, none⟩) hb
  exact ⟨(key _).trans h.c0, (key _).trans h.c1, (key _).trans h.c2, (key _).trans h.c3, (key _).trans h.c4, (key _).trans h.c5, (key _).trans h.c6⟩
theorem NB.below {W W' : World} {g o : Nat} {n : Nd} (h : NB W g o n) (hb : Below W.heap.size W W') : NB W' g o n := h.same (hb.block g h.lt)
abbrev ndO (n : Nd) : Obj := .cells #[.int .i64 n.op, .int .i64 n.nn, .string n.tx, .int .u64 n.s0, .int .u64 n.s1, .int .u64 n.s2, .int .u64 n.s3] 51
theorem nb_new (w : World) (n : Nd) : NB (w.alloc (ndO n)) w.heap.size 0 n := by
  have key : ∀ (j : Nat) u, (#[Value.int .i64 n.op, .int .i64 n.nn, .string n.tx, .int .u64 n.s0, .int .u64 n.s1, .int .u64 n.s2, .int .u64 n.s3] : Array Value)[j]? = some u → (w.alloc (ndO n)).cell? ⟨w.heap.size, j, none⟩ = some u := fun j u hu => by
    rw [cell_of_row (w.alloc (ndO n)) w.heap.size j _ 51 (0, 0) (heap_alloc_new w _)]
    exact hu
  exact ⟨key 0 _ rfl, key 1 _ rfl, key 2 _ rfl, key 3 _ rfl, key 4 _ rfl, key 5 _ rfl, key 6 _ rfl⟩
theorem below_box (w : World) (o : Obj) : Below w.heap.size w (w.alloc o) := (Below.refl _ _).alloc (Nat.le_refl _) _

set_option maxRecDepth 100000 in
set_option maxHeartbeats 2000000 in
theorem numberFits_any (op nn : Int) (tx : ByteArray) (a b c d : Int) (w : World) : Calls Try.prog 59 #[.agg #[.int .i64 op, .int .i64 nn, .string tx, .int .u64 a, .int .u64 b, .int .u64 c, .int .u64 d]] w fun e w' => e = .returned (.bool (nuF op nn)) ∧ Below w.heap.size w w' := by
  have key : ∀ (q : op = 14 ∨ op = 15 ∨ op = 16 ∨ op = 23), Hid (nuF op nn = decide (0 ≤ nn ∧ nn ≤ 50)) := fun q => (by show nuF op nn = _; unfold nuF; rw [if_pos q])
  by_cases h0 : op = 14 ∨ op = 15 ∨ op = 16 ∨ op = 23
  · have HE := key h0
    clear key
    rcases h0 with rfl | rfl | rfl | rfl
    all_goals
      by_cases n0 : 0 ≤ nn
      · have HF : Hid (nuF _ nn = decide (nn ≤ 50)) := (by show nuF _ nn = _; rw [HE.out]; simp only [n0, true_and])
        clear HE
        go_enter Try.func59, Try.ntmps59
        go_wp2_with fail
        go_ret
        exact ⟨by rw [HF.out]; rfl, below_box _ _⟩
      · have HF : Hid (nuF _ nn = false) := (by show nuF _ nn = _; rw [HE.out]; simp only [n0, false_and, decide_false])
        clear HE
        go_enter Try.func59, Try.ntmps59
        go_wp2_with fail
        go_ret
        exact ⟨by rw [HF.out]; rfl, below_box _ _⟩
  · have HF : Hid (nuF op nn = (nn == 0)) := (by show nuF op nn = _; unfold nuF; rw [if_neg h0]; rfl)
    have e1 : (op == 14) = false := beq_eq_false_iff_ne.2 (by omega)
    have e2 : (op == 15) = false := beq_eq_false_iff_ne.2 (by omega)
    have e3 : (op == 16) = false := beq_eq_false_iff_ne.2 (by omega)
    have e4 : (op == 23) = false := beq_eq_false_iff_ne.2 (by omega)
    clear h0 key
    go_enter Try.func59, Try.ntmps59
    go_wp2_with fail
    go_ret
    exact ⟨by rw [HF.out]; rfl, below_box _ _⟩

set_option maxRecDepth 100000 in
set_option maxHeartbeats 2000000 in
theorem setFits_any (op nn : Int) (tx : ByteArray) (a b c d : Int) (w : World) : Calls Try.prog 60 #[.agg #[.int .i64 op, .int .i64 nn, .string tx, .int .u64 a, .int .u64 b, .int .u64 c, .int .u64 d]] w fun e w' => e = .returned (.bool (seF op a b c d)) ∧ Below w.heap.size w w' := by
  by_cases h5 : op = 5
  · have HF : Hid (seF op a b c d = true) := (by show seF op a b c d = _; unfold seF; rw [if_pos h5])
    have e5 : (op == 5) = true := beq_iff_eq.2 h5
    clear h5
    go_enter Try.func60, Try.ntmps60
    go_wp2_with fail
    go_ret
    exact ⟨by rw [HF.out]; rfl, below_box _ _⟩
  · have HF : Hid (seF op a b c d = seE a b c d 0 0 0 0) := (by show seF op a b c d = _; rw [seE_zero op a b c d h5])
    have e5 : (op == 5) = false := beq_eq_false_iff_ne.2 h5
    have hq := set_eql a b c d 0 0 0 0
    clear h5
    go_enter Try.func60, Try.ntmps60
    go_wp2_with fail
    go_ret
    exact ⟨by rw [HF.out]; rfl, below_box _ _⟩

set_option maxRecDepth 100000 in
set_option maxHeartbeats 4000000 in
theorem textFits_any (op nn : Int) (tx : ByteArray) (a b c d : Int) (hs : tx.size ≤ 140737488355328) (w : World) : Calls Try.prog 58 #[.agg #[.int .i64 op, .int .i64 nn, .string tx, .int .u64 a, .int .u64 b, .int .u64 c, .int .u64 d]] w fun e w' => e = .returned (.bool (txF op tx)) ∧ Below w.heap.size w w' := by
  have HN : Hid (∀ w, Calls Try.prog 70 #[.string tx] w fun e w' => e = .returned (.bool (nmB tx)) ∧ w' = w) := fun w => isName_any tx hs w
  have HT : Hid (∀ w, Calls Try.prog 71 #[.string tx] w fun e w' => e = .returned (.bool (tmB tx)) ∧ w' = w) := fun w => isTemplate_any tx hs w
  by_cases h4 : op = 4
  · have e4 : (op == 4) = true := beq_iff_eq.2 h4
    by_cases q0 : tx.size = 0
    · have HF : Hid (txF op tx = false) := (by show txF op tx = _; unfold txF; rw [if_pos h4, decide_eq_false (by omega)])
      have t0 := emp_t q0
      clear h4 q0 HN HT
      go_enter Try.func58, Try.ntmps58
      go_wp2_with fail
      go_ret
      exact ⟨by rw [HF.out]; rfl, below_box _ _⟩
    · have HF : Hid (txF op tx = decide ((tx.size : Int) ≤ 255)) := (by
        show txF op tx = _
        unfold txF
        rw [if_pos h4]
        by_cases q : tx.size ≤ 255
        · rw [decide_eq_true (by omega), decide_eq_true (by omega)]
        · rw [decide_eq_false (by omega), decide_eq_false (by omega)])
      have t0 := emp_f q0
      clear h4 q0 HN HT
      go_enter Try.func58, Try.ntmps58
      go_wp2_with fail
      go_ret
      exact ⟨by rw [HF.out]; rfl, below_box _ _⟩
  have e4 : (op == 4) = false := beq_eq_false_iff_ne.2 h4
  by_cases h6 : op = 6
  · have e6 : (op == 6) = true := beq_iff_eq.2 h6
    have HF : Hid (txF op tx = nmB tx) := (by show txF op tx = _; unfold txF; rw [if_neg h4, if_pos h6])
    clear h4 h6 HT
    go_enter Try.func58, Try.ntmps58
    go_wp2_with fail
    refine (HN.out _).mono ?_
    rintro e w2 ⟨rfl, rfl⟩
    clear HN
    go_wp2_with fail
    go_ret
    exact ⟨by rw [HF.out]; rfl, below_box _ _⟩
  have e6 : (op == 6) = false := beq_eq_false_iff_ne.2 h6
  by_cases h19 : op = 19
  · have e19 : (op == 19) = true := beq_iff_eq.2 h19
    by_cases q0 : tx.size = 0
    · have HF : Hid (txF op tx = true) := (by show txF op tx = _; unfold txF; rw [if_neg h4, if_neg h6, if_pos h19, decide_eq_true q0]; rfl)
      have t0 := emp_t q0
      clear h4 h6 h19 q0 HN HT
      go_enter Try.func58, Try.ntmps58
      go_wp2_with fail
      go_ret
      exact ⟨by rw [HF.out]; rfl, below_box _ _⟩
    · have HF : Hid (txF op tx = nmB tx) := (by show txF op tx = _; unfold txF; rw [if_neg h4, if_neg h6, if_pos h19, decide_eq_false q0]; rfl)
      have t0 := emp_f q0
      clear h4 h6 h19 q0 HT
      go_enter Try.func58, Try.ntmps58
      go_wp2_with fail
      refine (HN.out _).mono ?_
      rintro e w2 ⟨rfl, rfl⟩
      clear HN
      go_wp2_with fail
      go_ret
      exact ⟨by rw [HF.out]; rfl, below_box _ _⟩
  have e19 : (op == 19) = false := beq_eq_false_iff_ne.2 h19
  by_cases h22 : op = 22
  · have e22 : (op == 22) = true := beq_iff_eq.2 h22
    have HF : Hid (txF op tx = tmB tx) := (by show txF op tx = _; unfold txF; rw [if_neg h4, if_neg h6, if_neg h19, if_pos h22])
    clear h4 h6 h19 h22 HN
    go_enter Try.func58, Try.ntmps58
    go_wp2_with fail
    refine (HT.out _).mono ?_
    rintro e w2 ⟨rfl, rfl⟩
    clear HT
    go_wp2_with fail
    go_ret
    exact ⟨by rw [HF.out]; rfl, below_box _ _⟩
  have e22 : (op == 22) = false := beq_eq_false_iff_ne.2 h22
  by_cases q0 : tx.size = 0
  · have HF : Hid (txF op tx = true) := (by show txF op tx = _; unfold txF; rw [if_neg h4, if_neg h6, if_neg h19, if_neg h22, decide_eq_true q0])
    have t0 := emp_t q0
    clear h4 h6 h19 h22 q0 HN HT
    go_enter Try.func58, Try.ntmps58
    go_wp2_with fail
    go_ret
    exact ⟨by rw [HF.out]; rfl, below_box _ _⟩
  · have HF : Hid (txF op tx = false) := (by show txF op tx = _; unfold txF; rw [if_neg h4, if_neg h6, if_neg h19, if_neg h22, decide_eq_false q0])
    have t0 := emp_f q0
    clear h4 h6 h19 h22 q0 HN HT
    go_enter Try.func58, Try.ntmps58
    go_wp2_with fail
    go_ret
    exact ⟨by rw [HF.out]; rfl, below_box _ _⟩

set_option maxRecDepth 100000 in
set_option maxHeartbeats 4000000 in
theorem alone_any (n : Nd) (hs : n.tx.size ≤ 140737488355328) (w : World) : Calls Try.prog 50 #[ndG n] w fun e w' => e = .returned (.int .i64 (alE n)) ∧ Below w.heap.size w w' := by
  obtain ⟨op, nn, tx, a, b, c, d⟩ := n
  have HA : Hid (∀ w, Calls Try.prog 23 #[.int .i64 op] w fun e w' => e = .returned (.int .i64 (ar op)) ∧ w' = w) := fun w => arity_any op w
  have HT : Hid (∀ w, Calls Try.prog 58 #[.agg #[.int .i64 op, .int .i64 nn, .string tx, .int .u64 a, .int .u64 b, .int .u64 c, .int .u64 d]] w fun e w' => e = .returned (.bool (txF op tx)) ∧ Below w.heap.size w w') := fun w => textFits_any op nn tx a b c d hs w
  have HN : Hid (∀ w, Calls Try.prog 59 #[.agg #[.int .i64 op, .int .i64 nn, .string tx, .int .u64 a, .int .u64 b, .int .u64 c, .int .u64 d]] w fun e w' => e = .returned (.bool (nuF op nn)) ∧ Below w.heap.size w w') := fun w => numberFits_any op nn tx a b c d w
  have HS : Hid (∀ w, Calls Try.prog 60 #[.agg #[.int .i64 op, .int .i64 nn, .string tx, .int .u64 a, .int .u64 b, .int .u64 c, .int .u64 d]] w fun e w' => e = .returned (.bool (seF op a b c d)) ∧ Below w.heap.size w w') := fun w => setFits_any op nn tx a b c d w
  by_cases h0 : ar op < 0
  · have HE : Hid (alE ⟨op, nn, tx, a, b, c, d⟩ = 40) := (by show alE _ = _; unfold alE; rw [if_pos h0])
    go_enter Try.func50, Try.ntmps50
    go_wp2_with fail
    refine (HA.out _).mono ?_
    rintro e w2 ⟨rfl, rfl⟩
    clear HA HT HN HS
    generalize ar op = k at *
    go_wp2_with fail
    go_ret
    exact ⟨by rw [HE.out]; rfl, below_box _ _⟩
  have HE : Hid (alE ⟨op, nn, tx, a, b, c, d⟩ = if txF op tx && nuF op nn && seF op a b c d then 0 else 41) := (by show alE _ = _; unfold alE; rw [if_neg h0]; rfl)
  go_enter Try.func50, Try.ntmps50
  go_wp2_with fail
  refine (HA.out _).mono ?_
  rintro e w2 ⟨rfl, rfl⟩
  clear HA
  generalize ar op = k at *
  go_wp2_with fail
  refine (HT.out _).mono ?_
  rintro e w3 ⟨rfl, b3⟩
  have HB : Hid (NB w3 w.heap.size 0 ⟨op, nn, tx, a, b, c, d⟩) := (nb_new w ⟨op, nn, tx, a, b, c, d⟩).below b3
  have HW : Hid (Below w.heap.size w w3) := (below_box _ _).trans (b3.mono (below_box _ _).size)
  clear b3 HT
  obtain ⟨c0, c1, c2, c3, c4, c5, c6⟩ := HB.out
  simp only [Nat.zero_add] at c0 c1 c2 c3 c4 c5 c6
  generalize txF op tx = t1 at *
  cases t1 with
  | false =>
    clear HN HS
    go_wp2_with fail
    go_ret
    exact ⟨by rw [HE.out]; rfl, HW.out⟩
  | true =>
    go_wp2_with fail
    refine (HN.out _).mono ?_
    rintro e w4 ⟨rfl, b4⟩
    clear HN c0 c1 c2 c3 c4 c5 c6
    have HB4 : Hid (NB w4 w.heap.size 0 ⟨op, nn, tx, a, b, c, d⟩) := HB.out.below b4
    have HW4 : Hid (Below w.heap.size w w4) := HW.out.trans (b4.mono HW.out.size)
    clear b4 HB HW
    obtain ⟨c0, c1, c2, c3, c4, c5, c6⟩ := HB4.out
    simp only [Nat.zero_add] at c0 c1 c2 c3 c4 c5 c6
    generalize nuF op nn = t2 at *
    cases t2 with
    | false =>
      clear HS
      go_wp2_with fail
      go_ret
      exact ⟨by rw [HE.out]; rfl, HW4.out⟩
    | true =>
      go_wp2_with fail
      refine (HS.out _).mono ?_
      rintro e w5 ⟨rfl, b5⟩
      clear HS c0 c1 c2 c3 c4 c5 c6
      have HW5 : Hid (Below w.heap.size w w5) := HW4.out.trans (b5.mono HW4.out.size)
      clear b5 HW4 HB4
      generalize seF op a b c d = t3 at *
      cases t3 with
      | false =>
        go_wp2_with fail
        go_ret
        exact ⟨by rw [HE.out]; rfl, HW5.out⟩
      | true =>
        go_wp2_with fail
        go_ret
        exact ⟨by rw [HE.out]; rfl, HW5.out⟩
end Go.Proofs.Ytbipjdgholdhcaa.T
