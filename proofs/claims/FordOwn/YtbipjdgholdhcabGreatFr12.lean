/- DERIVED. Plain mathematics and walks, laid together (12). -/
import Derived.Deep.WholeRow
import Derived.Deep.MidRow
import Derived.Laws.ResultCell
import Derived.Laws.CopyOwn
import Derived.Test.YtbipjdgholdhcabGreatFr11
namespace Go.Proofs.YtbipjdgholdhcabGreat.N
open Go.RowKit Go.Maps
open Go.Proofs.YtbipjdgholdhcabGreat.T
set_option maxRecDepth 100000 in
set_option maxHeartbeats 4000000 in
/-- Where parts begin, by the document. -/
theorem begins9_any (L : List Nd) (Ap : Option Addr) (cp : Nat) (hrt : Rt L) (hT : ∀ n ∈ L, n.tx.size ≤ 140737488355328) (w : World) (hp : RdN w Ap L) :
    Calls Tryz.prog 62 #[.slice Ap L.length cp] w fun e w' => (∃ v, e = .returned v ∧ w'.ownsRow w.heap.size 3 1 v L.length (bgc L L.length)) ∧ Below w.heap.size w w' := by
  have hl : L.length ≤ 2048 := by have := hrt.len; omega
  have HF := hid_of (from_any L Ap cp hl hT w hp)
  have HR := hid_of hrt
  clear hT hp hl hrt
  go_enter Tryz.func62, Tryz.ntmps62
  go_wp2_with fail
  refine Calls.mono HF.out ?_
  rintro e w2 ⟨h, b2⟩
  obtain ⟨v1, v2, rfl, hA⟩ := h.ok HR.out
  obtain ⟨A1, c1, rfl⟩ := U.own_slice hA.o1
  obtain ⟨A2, c2, rfl⟩ := U.own_slice hA.o2
  have HO := hid_of hA.o1
  have HB := hid_of b2
  clear HF h hA b2
  go_wp2_with fail
  go_ret
  exact ⟨⟨_, rfl, HO.out⟩, HB.out⟩
end Go.Proofs.YtbipjdgholdhcabGreat.N

namespace Go.Proofs.YtbipjdgholdhcabGreat.N
open Go.RowKit Go.Maps
open Go.Proofs.YtbipjdgholdhcabGreat.T
/-- Of each node of a pattern: may its part match nothing? -/
def nuA (kd : Nat → List Nat) (r : ByteArray → Bool) (L : List Nd) (k : Nat) : Bool := ((nuL kd r L L.length)[k]?).getD false
theorem nuL_pre {kd : Nat → List Nat} {r : ByteArray → Bool} {L : List Nd} : ∀ (m k : Nat), k + m ≤ L.length → ∀ (j : Nat), j < k → (nuL kd r L (k + m))[j]? = (nuL kd r L k)[j]? := by
  intro m
  induction m with
  | zero => intro k _ j _; rfl
  | succ m ih =>
    intro k hk j hj
    have hn : L[k + m]? = some L[k + m] := List.getElem?_eq_getElem (by omega)
    rw [show k + (m + 1) = (k + m) + 1 from by omega, nuL_succ hn, List.getElem?_append_left (by rw [nuL_len _ (by omega)]; omega)]
    exact ih k (by omega) j hj
theorem nuA_at {kd : Nat → List Nat} {r : ByteArray → Bool} {L : List Nd} {k j : Nat} (hk : k ≤ L.length) (hj : j < k) : ((nuL kd r L k)[j]?).getD false = nuA kd r L j := by
  have e := nuL_pre (kd := kd) (r := r) (L := L) (L.length - k) k (by omega) j hj
  rw [show k + (L.length - k) = L.length from by omega] at e
  unfold nuA
  rw [e]
theorem nuA_step {kd : Nat → List Nat} {r : ByteArray → Bool} {L : List Nd} (hk : Kds kd L) {k : Nat} {n : Nd} (hn : L[k]? = some n) : nuA kd r L k = nuD n (if 0 < arN n.op then nuA kd r L (((kd k)[0]?).getD k) else false) (if 1 < arN n.op then nuA kd r L (((kd k)[1]?).getD k) else false) r := by
  have hlt := (List.getElem?_eq_some_iff.1 hn).1
  have hl := nuL_len (kd := kd) (r := r) (L := L) k (by omega)
  have e := nuA_at (kd := kd) (r := r) (L := L) (k := k + 1) (j := k) (by omega) (Nat.lt_succ_self k)
  rw [← e, nuL_succ hn, List.getElem?_append_right (by omega), hl, Nat.sub_self]
  have key : ∀ (i : Nat), ((nuL kd r L k)[((kd k)[i]?).getD k]?).getD false = if i < arN n.op then nuA kd r L (((kd k)[i]?).getD k) else false := fun i => by
    by_cases q : i < arN n.op
    · rw [if_pos q]
      have h : (kd k)[i]? = some (((kd k)[i]?).getD k) := by
        rw [List.getElem?_eq_getElem (by rw [hk.n k n hn]; exact q)]
        rfl
      exact nuA_at (by omega) (hk.lt k _ hlt (List.mem_of_getElem? h))
    · rw [if_neg q, show (kd k)[i]? = none from List.getElem?_eq_none (by rw [hk.n k n hn]; omega), Option.getD_none, List.getElem?_eq_none (by omega)]
      rfl
  rw [key 0, key 1]
  rfl
theorem nuA_last {kd : Nat → List Nat} {r : ByteArray → Bool} {L : List Nd} : nuLa kd r L = nuA kd r L (L.length - 1) := by
  unfold nuLa nuA
  rw [List.getLast?_eq_getElem?, nuL_len _ (Nat.le_refl _)]
set_option maxRecDepth 100000 in
/-- The rule of a name, by the document of chapter 8. -/
theorem number_any (gs : GL) (A : Option Addr) (c : Nat) (s : ByteArray) (w : World) (hp : GI w A gs) : Calls Tryz.prog 63 #[.agg #[.slice A gs.length c], .string s] w fun e w' => e = .returned (.int .i64 (fdN gs s)) ∧ Below w.heap.size w w' := by
  obtain ⟨w1, hw1⟩ : ∃ w1, w1 = w.alloc (.cells #[.slice A gs.length c] 24) := ⟨_, rfl⟩
  have HE1 := (show Hid (w.alloc (.cells #[.slice A gs.length c] 24) = w1) from hw1.symm)
  have HB1 := (show Hid (Below w.heap.size w w1) from by rw [hw1]; exact below_box _ _)
  have q1 : w1.cell? ⟨w.heap.size, 0, none⟩ = some (.slice A gs.length c) := by rw [hw1]; exact (GX.mk (heap_alloc_new w _)).cl
  have HF := (show Hid (∀ _ : Unit, Calls Tryz.prog 19 #[.agg #[.slice A gs.length c], .string s] w1 fun e w' => e = .returned (.int .i64 (fdN gs s)) ∧ Below w1.heap.size w1 w') from fun _ => find_any gs A c s w1 (hp.later HB1.out))
  clear hp hw1
  go_enter Tryz.func63, Tryz.ntmps63
  go_wp2_with (rw [HE1.out])
  refine (HF.out ()).mono ?_
  rintro e w2 ⟨rfl, b2⟩
  have HB2 := (show Hid (Below w.heap.size w w2) from HB1.out.trans (b2.mono HB1.out.size))
  clear b2 HF HE1 q1 HB1
  go_wp2_with fail
  go_ret
  exact ⟨rfl, HB2.out⟩
end Go.Proofs.YtbipjdgholdhcabGreat.N

namespace Go.Proofs.YtbipjdgholdhcabGreat.N
open Go.RowKit Go.Maps
open Go.Proofs.YtbipjdgholdhcabGreat.T
/-- What Rules answers. -/
def RuR (gs : GL) (now : List Em) : Prop := ((ckG gs).2 = 0 → KnF gs now ∧ now.length = gs.length ∧ OkN gs now) ∧ ((ckG gs).2 ≠ 0 → now = [])
set_option maxRecDepth 100000 in
set_option maxHeartbeats 8000000 in
theorem rulesP_any (gs : GL) (A : Option Addr) (c : Nat) (w : World) (hp : GI w A gs) :
    Calls Tryz.prog 39 #[.agg #[.slice A gs.length c]] w fun e w' => (∃ v now, e = .returned (.tuple #[v, .int .i64 (ckG gs).2]) ∧ RuR gs now ∧ w'.ownsRow w.heap.size 110 4 v now.length (emc now)) ∧ Below w.heap.size w w' := by
  obtain ⟨w1, hw1⟩ : ∃ w1, w1 = w.alloc (.cells #[.slice A gs.length c] 24) := ⟨_, rfl⟩
  have HE1 := (show Hid (w.alloc (.cells #[.slice A gs.length c] 24) = w1) from hw1.symm)
  have HB1 := (show Hid (Below w.heap.size w w1) from by rw [hw1]; exact below_box _ _)
  have HG1 := (show Hid (GX w1 w.heap.size (.slice A gs.length c)) from by rw [hw1]; exact GX.mk (heap_alloc_new w _))
  have q1 := HG1.out.cl
  have HN := hid_of (knownOf_any gs A c w1 (hp.later HB1.out))
  clear hw1 hp HG1
  go_enter Tryz.func39, Tryz.ntmps39
  go_wp2_with (rw [HE1.out])
  refine Calls.mono HN.out ?_
  rintro e w2 ⟨⟨m, v, rfl, h1, h2⟩, b2⟩
  have HB2 := (show Hid (Below w.heap.size w w2) from HB1.out.trans (b2.mono HB1.out.size))
  have hs1 := HB1.out.size
  clear HN HE1 q1 b2
  by_cases hz : (ckG gs).2 = 0
  · obtain ⟨mb, Ar, cr, now, rfl, rfl, _, _, hF, hl, hok, ho⟩ := h2 hz
    have tz : ((ckG gs).2 != 0) = false := by rw [hz]; rfl
    have HO := (show Hid (w2.ownsRow w.heap.size 110 4 (.slice Ar gs.length cr) gs.length (emc now)) from T.own_base ho hs1)
    have HR := (show Hid (RuR gs now ∧ now.length = gs.length ∧ (ckG gs).2 = 0) from ⟨⟨fun _ => ⟨hF, hl, hok⟩, fun q => absurd hz q⟩, hl, hz⟩)
    clear h1 h2 ho hF hl hok hz hs1
    obtain ⟨w3, hw3⟩ : ∃ w3, w3 = w2.alloc (.cells #[.map (some mb), .slice Ar gs.length cr] 105) := ⟨_, rfl⟩
    have HE3 := (show Hid (w2.alloc (.cells #[.map (some mb), .slice Ar gs.length cr] 105) = w3) from hw3.symm)
    have k1 : w3.cell? ⟨w2.heap.size, 1, none⟩ = some (.slice Ar gs.length cr) := by rw [hw3]; exact (KX.new w2 _ _).c1
    have HB3 := (show Hid (Below w2.heap.size w2 w3) from by rw [hw3]; exact below_box _ _)
    clear hw3
    generalize hcd : (ckG gs).2 = cd at tz
    have HCD := (show Hid ((ckG gs).2 = cd) from hcd)
    clear hcd
    go_wp2_with (rw [HE3.out])
    refine bodyPost_ret (v := .tuple #[.slice Ar gs.length cr, .int .i64 0]) (by simp [results, Tryz.results39, go_sem]) rfl ⟨⟨_, now, by rw [HR.out.2.2], HR.out.1, by rw [HR.out.2.1]; exact T.own_below HO.out HB3.out⟩, HB2.out.trans (HB3.out.mono HB2.out.size)⟩
  · obtain ⟨rfl, rfl⟩ := h1 hz
    have tz : ((ckG gs).2 != 0) = true := by rw [bne, beq_eq_false_iff_ne.2 hz]; rfl
    have HR := (show Hid (RuR gs [] ∧ (ckG gs).2 ≠ 0) from ⟨⟨fun q => absurd q hz, fun _ => rfl⟩, hz⟩)
    clear h1 h2 hz hs1
    have HB3 := (show Hid (Below w2.heap.size w2 (w2.alloc (.cells #[.map none, .slice none 0 0] 105))) from below_box _ _)
    generalize hcd : (ckG gs).2 = cd at tz
    have HCD := (show Hid ((ckG gs).2 = cd) from hcd)
    clear hcd
    go_wp2_with fail
    refine bodyPost_ret (v := .tuple #[.slice none 0 0, .int .i64 cd]) (by simp [results, Tryz.results39, go_sem]) rfl ⟨⟨_, [], by rw [HCD.out], HR.out.1, World.ownsRow_nil _ _ _ _⟩, HB2.out.trans (HB3.out.mono HB2.out.size)⟩
/-- A box of a list. -/
structure LX (W : World) (b : Nat) (v : Value) : Prop where
  heap : W.heap[b]? = some (.cells #[v] 64 (0, 0))
theorem LX.lt {W : World} {b : Nat} {v : Value} (x : LX W b v) : b < W.heap.size := (Array.getElem?_eq_some_iff.1 x.heap).1
theorem LX.c0 {W : World} {b : Nat} {v : Value} (x : LX W b v) : W.cell? ⟨b, 0, none⟩ = some v := by rw [cell_of_row W b 0 _ 64 (0, 0) x.heap]; rfl
theorem LX.fz {W : World} {b : Nat} {v : Value} (x : LX W b v) : W.frozen? ⟨b, 0, none⟩ = false := frozen_of_row W b 0 _ 64 x.heap
theorem LX.same {W W' : World} {b : Nat} {v : Value} (x : LX W b v) (hb : W'.heap[b]? = W.heap[b]?) : LX W' b v := ⟨hb.trans x.heap⟩
theorem LX.below {W W' : World} {b : Nat} {v : Value} (x : LX W b v) (hb : Below W.heap.size W W') : LX W' b v := x.same (hb.block b x.lt)
theorem LX.set {W : World} {b : Nat} {v : Value} (x : LX W b v) (u : Value) : LX (W.setCell ⟨b, 0, none⟩ u) b u := ⟨by rw [heap_setCell_same W b 0 _ 64 _ x.heap]; rfl⟩
set_option maxRecDepth 100000 in
set_option maxHeartbeats 16000000 in
/-- One node, and its part put behind the others. -/
theorem part1_any {gs : GL} {now : List Em} {L : List Nd} (hpt : PtR gs now L) {k : Nat} {n : Nd} (hn : L[k]? = some n) (B : Nat) (Ar A : Option Addr) (cr c kb lb Bb : Nat) (v : Value) (l : List Em) (w : World) (hk : KnI w gs B Ar now) (hkx : KX w kb (.map (some B)) (.slice Ar now.length cr)) (hlx : LX w lb v) (hll : l.length = k) (ho : w.ownsRow Bb 110 4 v k (emc l)) (hlb : lb < Bb) (hBb : Bb ≤ w.heap.size) (hp : RdE w A (emS (EE (lkE gs now) L) ((run L k).take (arN n.op)))) :
    Calls Tryz.prog 84 #[ndG n, .slice A (arN n.op) c, .pointer (some ⟨kb, 0, none⟩), .pointer (some ⟨lb, 0, none⟩)] w fun e w' => e = .returned (emG (EE (lkE gs now) L k)) ∧ ∃ v', LX w' lb v' ∧ w'.ownsRow Bb 110 4 v' (k + 1) (emc (l ++ [EE (lkE gs now) L k])) ∧ (∀ b, v'.ownBlock = some b → v.ownBlock = some b ∨ w.heap.size ≤ b) ∧ Kp (fun b => b = lb ∨ v.ownBlock = some b) w w' := by
  have hkl : k ≤ 2048 := by have h1 := (List.getElem?_eq_some_iff.1 hn).1; have h2 := hpt.rt.len; omega
  obtain ⟨A3, c3, rfl⟩ := own_fm ho
  obtain ⟨w1, hw1⟩ : ∃ w1, w1 = (w.alloc (.cells #[.int .i64 n.op, .int .i64 n.nn, .string n.tx, .int .u64 n.s0, .int .u64 n.s1, .int .u64 n.s2, .int .u64 n.s3] 57)).alloc (.cells #[.bool false, .bool false, .int .i64 0, .int .i64 0] 110) := ⟨_, rfl⟩
  have HE1 := (show Hid ((w.alloc (.cells #[.int .i64 n.op, .int .i64 n.nn, .string n.tx, .int .u64 n.s0, .int .u64 n.s1, .int .u64 n.s2, .int .u64 n.s3] 57)).alloc (.cells #[.bool false, .bool false, .int .i64 0, .int .i64 0] 110) = w1) from hw1.symm)
  have HS1 := (show Hid (Below w.heap.size w w1 ∧ NX w1 w.heap.size n ∧ EX w1 (w.heap.size + 1) e0) from by
    have s1 := World.size_alloc w (ndO n)
    refine ⟨by rw [hw1]; exact ((Below.refl _ _).alloc (Nat.le_refl _) _).alloc (by rw [World.size_alloc]; omega) _, by rw [hw1]; exact nx_below ⟨heap_alloc_new w _⟩ (below_box _ _), ?_⟩
    have h := EX.new (w.alloc (ndO n)) e0
    rw [s1] at h
    rw [hw1]; exact h)
  have hx1 := hkx.below HS1.out.1
  have k0 := hx1.c0
  have k1 := hx1.c1
  obtain ⟨d0, d1, d2, d3, d4, d5, d6⟩ := HS1.out.2.1.nb
  simp only [Nat.zero_add] at d0 d1 d2 d3 d4 d5 d6
  obtain ⟨⟨en, ec, el, em⟩, hE⟩ : ∃ e, e = EE (lkE gs now) L k := ⟨_, rfl⟩
  have HC := (show Hid (Calls Tryz.prog 85 #[.agg #[.map (some B), .slice Ar now.length cr], ndG n, .slice A (arN n.op) c] w1 fun e w' => e = .returned (.agg #[.bool en, .bool ec, .int .i64 el, .int .i64 em]) ∧ Below w1.heap.size w1 w') from by
    have t := hpt.node hn B Ar A cr c w1 (hk.later HS1.out.1) (hp.later HS1.out.1)
    rw [← hE] at t
    exact t)
  have HLx := (show Hid (LX w lb (.slice A3 k c3)) from hlx)
  have HO := (show Hid (w.ownsRow Bb 110 4 (.slice A3 k c3) k (emc l)) from ho)
  have HBb := (show Hid (lb < Bb ∧ Bb ≤ w.heap.size) from ⟨hlb, hBb⟩)
  have hlw := hlx.lt
  rw [← hE]
  have HEE := (show Hid (⟨en, ec, el, em⟩ = EE (lkE gs now) L k) from hE)
  clear hw1 hpt hk hkx hlx ho hp hE hx1 hlb hBb hn
  go_enter Tryz.func84, Tryz.ntmps84
  go_wp2_with (rw [HE1.out])
  refine HC.out.mono ?_
  rintro e w2 ⟨rfl, b2⟩
  have HB2 := (show Hid (Below w.heap.size w w2 ∧ EX w2 (w.heap.size + 1) e0) from ⟨HS1.out.1.trans (b2.mono HS1.out.1.size), HS1.out.2.2.below b2⟩)
  clear HC HE1 k0 k1 d0 d1 d2 d3 d4 d5 d6 HS1 b2
  obtain ⟨w3, hw3⟩ : ∃ w3, w3 = w2.alloc (.cells #[.bool en, .bool ec, .int .i64 el, .int .i64 em] 110) := ⟨_, rfl⟩
  obtain ⟨kk, hkk⟩ : ∃ kk, kk = w2.heap.size := ⟨_, rfl⟩
  have HE3 := (show Hid (w2.alloc (.cells #[.bool en, .bool ec, .int .i64 el, .int .i64 em] 110) = w3) from hw3.symm)
  have HKk := (show Hid (w2.heap.size = kk) from hkk.symm)
  have hb23 : Below w2.heap.size w2 w3 := by rw [hw3]; exact below_box _ _
  have HX3 := (show Hid (EX w3 kk ⟨en, ec, el, em⟩) from by rw [hw3, hkk]; exact EX.new w2 ⟨en, ec, el, em⟩)
  have HB3 := (show Hid (Below w.heap.size w w3 ∧ EX w3 (w.heap.size + 1) e0 ∧ w.heap.size + 1 < kk) from ⟨HB2.out.1.trans (hb23.mono HB2.out.1.size), HB2.out.2.below hb23, by rw [hkk]; exact HB2.out.2.lt⟩)
  have HO3 := (show Hid (w3.ownsRow Bb 110 4 (.slice A3 k c3) k (emc l)) from T.own_below HO.out HB3.out.1)
  have HL3 := (show Hid (LX w3 lb (.slice A3 k c3)) from HLx.out.below HB3.out.1)
  have l0 := HL3.out.c0
  have x0 : w3.cell? ⟨kk, 0, none⟩ = some (.bool en) := HX3.out.eb.c0
  have x1 : w3.cell? ⟨kk, 1, none⟩ = some (.bool ec) := HX3.out.eb.c1
  have x2 : w3.cell? ⟨kk, 2, none⟩ = some (.int .i64 el) := HX3.out.eb.c2
  have x3 : w3.cell? ⟨kk, 3, none⟩ = some (.int .i64 em) := HX3.out.eb.c3
  have HPu := (show Hid (∀ (w6 : World) (g6 cap6 : Nat), w6.ownsRow Bb 110 4 (.slice (some ⟨g6, 0, none⟩) (k + 1) cap6) (k + 1) (emc (l ++ [⟨en, ec, el, em⟩])) → w3.grownBy w6 (Value.slice A3 k c3).ownBlock → ((Value.slice A3 k c3).ownBlock = some g6 ∨ g6 = w3.heap.size + 1) → LX w6 lb (.slice A3 k c3) ∧ ∀ w7, w7 = w6.setCell ⟨lb, 0, none⟩ (.slice (some ⟨g6, 0, none⟩) (k + 1) cap6) → EX w7 kk ⟨en, ec, el, em⟩ ∧ EX w7 (w.heap.size + 1) e0 ∧ (∃ v', LX (st4 w7 (w.heap.size + 1) ⟨en, ec, el, em⟩) lb v' ∧ (st4 w7 (w.heap.size + 1) ⟨en, ec, el, em⟩).ownsRow Bb 110 4 v' (k + 1) (emc (l ++ [⟨en, ec, el, em⟩])) ∧ (∀ b, v'.ownBlock = some b → (Value.slice A3 k c3).ownBlock = some b ∨ w.heap.size ≤ b) ∧ Kp (fun b => b = lb ∨ (Value.slice A3 k c3).ownBlock = some b) w (st4 w7 (w.heap.size + 1) ⟨en, ec, el, em⟩))) from fun w6 g6 cap6 h1 h2 h3 => by
    have hlow : ∀ q, (Value.slice A3 k c3).ownBlock = some q → Bb ≤ q ∧ q < w.heap.size := fun q hq => HO.out.lt q hq
    have hbb := HBb.out
    have hkk2 := HB3.out.2.2
    have hlt3 := HX3.out.lt
    have key6 : ∀ j, j < w3.heap.size → (∀ q, (Value.slice A3 k c3).ownBlock = some q → q ≠ j) → w6.heap[j]? = w3.heap[j]? := fun j hj hq => h2.block j hj (fun e => hq j e.symm rfl)
    have hL6 : LX w6 lb (.slice A3 k c3) := HL3.out.same (key6 lb HL3.out.lt (fun q hq => by have := hlow q hq; omega))
    refine ⟨hL6, fun w7 hw7 => ?_⟩
    have key7 : ∀ j, j ≠ lb → w7.heap[j]? = w6.heap[j]? := fun j hj => by rw [hw7]; exact heap_setCell_other _ _ _ _ hj
    have hX7 : EX w7 kk ⟨en, ec, el, em⟩ := HX3.out.same ((key7 kk (by omega)).trans (key6 kk hlt3 (fun q hq => by have := hlow q hq; omega)))
    have hZ7 : EX w7 (w.heap.size + 1) e0 := HB3.out.2.1.same ((key7 _ (by omega)).trans (key6 _ HB3.out.2.1.lt (fun q hq => by have := hlow q hq; omega)))
    have key8 : ∀ j, j ≠ w.heap.size + 1 → (st4 w7 (w.heap.size + 1) ⟨en, ec, el, em⟩).heap[j]? = w7.heap[j]? := fun j hj => st4_other hj _
    have hL7 : LX w7 lb (.slice (some ⟨g6, 0, none⟩) (k + 1) cap6) := by rw [hw7]; exact hL6.set _
    have ho7 : w7.ownsRow Bb 110 4 (.slice (some ⟨g6, 0, none⟩) (k + 1) cap6) (k + 1) (emc (l ++ [⟨en, ec, el, em⟩])) := by rw [hw7]; exact ownsRow_setCell_below h1 (a := ⟨lb, 0, none⟩) hbb.1 _
    have hg6 : g6 ≠ w.heap.size + 1 := by
      rcases h3 with q | q
      · have := hlow g6 q; omega
      · omega
    have hs8 : (st4 w7 (w.heap.size + 1) ⟨en, ec, el, em⟩).heap.size = w6.heap.size := by unfold st4; rw [World.size_setCell, World.size_setCell, World.size_setCell, World.size_setCell, hw7, World.size_setCell]
    refine ⟨hX7, hZ7, _, hL7.same (key8 lb (by omega)), own_same ho7 (fun q hq => key8 q (by have e : g6 = q := Option.some.inj hq; omega)), fun b hb => ?_, ⟨?_, ?_, ?_, ?_, fun b hb hnb => ?_⟩⟩
    · have e : g6 = b := Option.some.inj hb
      subst e
      rcases h3 with q | q
      · exact .inl q
      · exact .inr (by omega)
    · rw [hw7]; exact h2.os.trans HB3.out.1.os
    · rw [hw7]; exact h2.tape.trans HB3.out.1.tape
    · rw [hw7]; exact h2.output.trans HB3.out.1.output
    · rw [hs8]; exact Nat.le_trans HB3.out.1.size h2.size
    · rw [key8 b (by omega), key7 b (fun e => hnb (.inl e)), key6 b (by omega) (fun q hq e => hnb (.inr (by rw [← e]; exact hq)))]
      exact HB3.out.1.block b hb)
  have HSz := (show Hid (Bb ≤ w3.heap.size) from Nat.le_trans HBb.out.2 HB3.out.1.size)
  clear hw3 hkk hb23 HX3 HL3 HB2 HB3 HO HLx HBb
  go_wp2_with (first
    | rw [HE3.out, HKk.out]
    | rw [HE7.out]
    | (at_builtin
       refine wpList_appE w3.heap.size rfl rfl _ _ rfl Bb k _ l rfl rfl HO3.out (by omega) HSz.out ?_
       intro g6 cap6 w6 ho6 hg6 hat6 hl6
       have HF6 := (show Hid _ from HPu.out w6 g6 cap6 ho6 hg6 hat6)
       have m0 := HF6.out.1.c0
       have mf := HF6.out.1.fz
       obtain ⟨w7, hw7⟩ : ∃ w7, w7 = w6.setCell ⟨lb, 0, none⟩ (.slice (some ⟨g6, 0, none⟩) (k + 1) cap6) := ⟨_, rfl⟩
       have HE7 := (show Hid (w6.setCell ⟨lb, 0, none⟩ (.slice (some ⟨g6, 0, none⟩) (k + 1) cap6) = w7) from hw7.symm)
       have HF7 := (show Hid _ from HF6.out.2 w7 hw7)
       have y0 : w7.cell? ⟨kk, 0, none⟩ = some (.bool en) := HF7.out.1.eb.c0
       have y1 : w7.cell? ⟨kk, 1, none⟩ = some (.bool ec) := HF7.out.1.eb.c1
       have y2 : w7.cell? ⟨kk, 2, none⟩ = some (.int .i64 el) := HF7.out.1.eb.c2
       have y3 : w7.cell? ⟨kk, 3, none⟩ = some (.int .i64 em) := HF7.out.1.eb.c3
       have z0 : w7.cell? ⟨w.heap.size + 1, 0, none⟩ = some (.bool false) := HF7.out.2.1.eb.c0
       have z1 : w7.cell? ⟨w.heap.size + 1, 1, none⟩ = some (.bool false) := HF7.out.2.1.eb.c1
       have z2 : w7.cell? ⟨w.heap.size + 1, 2, none⟩ = some (.int .i64 0) := HF7.out.2.1.eb.c2
       have z3 : w7.cell? ⟨w.heap.size + 1, 3, none⟩ = some (.int .i64 0) := HF7.out.2.1.eb.c3
       have f0 := HF7.out.2.1.fz 0
       have f1 := HF7.out.2.1.fz 1
       have f2 := HF7.out.2.1.fz 2
       have f3 := HF7.out.2.1.fz 3
       clear ho6 hg6 hat6 hl6 HPu HO3 HSz hw7 HF6 x0 x1 x2 x3 l0))
  refine ret_ex (s := 6) (k := w.heap.size + 1) (by rfl) (by rfl) (by rfl) (HF7.out.2.1.all ⟨en, ec, el, em⟩) ?_
  exact ⟨rfl, HF7.out.2.2⟩
end Go.Proofs.YtbipjdgholdhcabGreat.N

namespace Go.Proofs.YtbipjdgholdhcabGreat.N
open Go.RowKit Go.Maps
open Go.Proofs.YtbipjdgholdhcabGreat.T
/-- While the parts of a pattern are told. -/
def JP (gs : GL) (now : List Em) (Bm : Nat) (Ar : Option Addr) (cr kb lb : Nat) (E : Nat → Em) (k : Nat) (X : Nat → Prop) (w : World) : Prop := ∃ v, (∀ b, X b ↔ (b = lb ∨ v.ownBlock = some b)) ∧ LX w lb v ∧ w.ownsRow (lb + 1) 110 4 v k (emc ((List.range k).map E)) ∧ KX w kb (.map (some Bm)) (.slice Ar now.length cr) ∧ KnI w gs Bm Ar now
theorem see_pt {gs : GL} {now : List Em} {L : List Nd} (h : PtR gs now L) (Bm : Nat) (Ar : Option Addr) (cr kb lb Bc B : Nat) (h1 : kb < lb) (h2 : Bm < lb) (h3 : ∀ g o, Ar = some ⟨g, o, none⟩ → g < lb) (h4 : lb < B) (h5 : Bc ≤ lb) : See9 L 84 #[] #[.pointer (some ⟨kb, 0, none⟩), .pointer (some ⟨lb, 0, none⟩)] (EE (lkE gs now) L) Bc B (JP gs now Bm Ar cr kb lb (EE (lkE gs now) L)) where
  kept := fun k X w w' hj hz hb => by
    obtain ⟨v, hX, hL, ho, hk, hn⟩ := hj
    exact ⟨v, hX, hL.same (hb _ (.inr ((hX _).2 (.inl rfl)))), own_same ho (fun q hq => hb q (.inr ((hX _).2 (.inr hq)))), hk.same (hb _ (.inl (by omega))), hn.same hz (hb _ (.inl (by omega))) (fun g o e => hb _ (.inl (by have := h3 g o e; omega)))⟩
  far := fun k X w hj b hb => by
    obtain ⟨v, hX, hL, ho, hk, hn⟩ := hj
    rcases (hX b).1 hb with rfl | q
    · exact ⟨h5, hL.lt⟩
    · have := ho.lt b q
      exact ⟨by omega, this.2⟩
  call := fun k X w A c n hj hB hn hp hA => by
    obtain ⟨v, hX, hL, ho, hk, hkn⟩ := hj
    have hlow : ∀ q, v.ownBlock = some q → lb + 1 ≤ q := fun q hq => (ho.lt q hq).1
    refine (part1_any h hn Bm Ar A cr c kb lb (lb + 1) v _ w hkn hk hL (by rw [List.length_map, List.length_range]) ho (Nat.lt_succ_self _) hL.lt hp).mono ?_
    rintro e w' ⟨rfl, v', hL', ho', hb', hkp⟩
    have same : ∀ b, b < lb → w'.heap[b]? = w.heap[b]? := fun b hb => hkp.block b (Nat.lt_trans hb hL.lt) (fun q => by
      rcases q with q | q
      · omega
      · have := hlow b q; omega)
    refine ⟨rfl, fun b => b = lb ∨ v'.ownBlock = some b, ⟨v', fun b => Iff.rfl, hL', by rw [List.range_succ, List.map_append]; exact ho', hk.same (same _ h1), hkn.same hkp.size (same _ h2) (fun g o e => same _ (h3 g o e))⟩, ⟨hkp.os, hkp.tape, hkp.output, hkp.size, fun b hb hnX => hkp.block b hb (fun q => hnX ((hX b).2 q))⟩, fun b q => ?_⟩
    rcases q with q | q
    · exact .inl ((hX b).2 (.inl q))
    · rcases hb' b q with q | q
      · exact .inl ((hX b).2 (.inr q))
      · exact .inr q
theorem enters_pt1 (args : Array Value) (w : World) : (callFunc 84 args).run Tryz.prog w = .ok (.enter 84 args) w := enters_of Tryz.func84 (by kernel_rfl) rfl args w
set_option maxRecDepth 100000 in
set_option maxHeartbeats 8000000 in
/-- All parts of a pattern. -/
theorem parts_any {gs : GL} {now : List Em} {L : List Nd} (h : PtR gs now L) (B : Nat) (Ar Ap : Option Addr) (cr cp : Nat) (w : World) (hk : KnI w gs B Ar now) (hn : now ≠ []) (hL : RdN w Ap L) :
    Calls Tryz.prog 75 #[.agg #[.map (some B), .slice Ar now.length cr], .slice Ap L.length cp] w fun e w' => (∃ v, e = .returned v ∧ w'.ownsRow w.heap.size 110 4 v L.length (emc ((List.range L.length).map (EE (lkE gs now) L)))) ∧ Below w.heap.size w w' := by
  obtain ⟨w1, hw1⟩ : ∃ w1, w1 = (w.alloc (.cells #[.map (some B), .slice Ar now.length cr] 105)).alloc (.cells #[.slice none 0 0] 64) := ⟨_, rfl⟩
  have HE1 := (show Hid ((w.alloc (.cells #[.map (some B), .slice Ar now.length cr] 105)).alloc (.cells #[.slice none 0 0] 64) = w1) from hw1.symm)
  have s1 := World.size_alloc w (.cells #[.map (some B), .slice Ar now.length cr] 105)
  have s2 : w1.heap.size = w.heap.size + 2 := by rw [hw1, World.size_alloc, s1]
  have hb1 : Below w.heap.size w w1 := by rw [hw1]; exact ((Below.refl _ _).alloc (Nat.le_refl _) _).alloc (by omega) _
  have hk1 : KX w1 w.heap.size (.map (some B)) (.slice Ar now.length cr) := by rw [hw1]; exact (KX.new w _ _).below (below_box _ _)
  have hl1 : LX w1 (w.heap.size + 1) (.slice none 0 0) := by
    have q : LX ((w.alloc (.cells #[.map (some B), .slice Ar now.length cr] 105)).alloc (.cells #[.slice none 0 0] 64)) (w.alloc (.cells #[.map (some B), .slice Ar now.length cr] 105)).heap.size (.slice none 0 0) := ⟨heap_alloc_new _ _⟩
    rw [s1, ← hw1] at q; exact q
  have HT := hid_of (through9_any L 84 #[] #[.pointer (some ⟨w.heap.size, 0, none⟩), .pointer (some ⟨w.heap.size + 1, 0, none⟩)] (EE (lkE gs now) L) (JP gs now B Ar cr w.heap.size (w.heap.size + 1) (EE (lkE gs now) L)) Ap cp w.heap.size h.rt w1 hb1.size (hL.below hb1 (Nat.le_refl _)) (fun a ha => by
      have hne : L ≠ [] := by rintro rfl; have := h.rt.one; simp [run] at this
      obtain ⟨g, o, e, lt, _⟩ := hL hne
      rw [e] at ha
      obtain rfl := Option.some.inj ha
      exact lt) enters_pt1 (see_pt h B Ar cr w.heap.size (w.heap.size + 1) w.heap.size w1.heap.size (by omega) (by have := hk.m.lt; omega) (fun g o e => by have := rde_lt hk.r hn g o e; omega) (by omega) (by omega)) (fun b => b = w.heap.size + 1 ∨ (Value.slice none 0 0).ownBlock = some b) ⟨_, fun b => Iff.rfl, hl1, World.ownsRow_nil _ _ _ _, hk1, hk.later hb1⟩ (fun b q => by
      rcases q with q | q
      · omega
      · simp [Value.ownBlock] at q))
  have HB1 := (show Hid (Below w.heap.size w w1) from hb1)
  obtain ⟨⟨en, ec, el, em⟩, hE⟩ : ∃ e, e = EE (lkE gs now) L (L.length - 1) := ⟨_, rfl⟩
  rw [← hE] at HT
  simp only [emG] at HT
  clear hw1 h hk hn hL s1 s2 hb1 hk1 hl1
  go_enter Tryz.func75, Tryz.ntmps75
  go_wp2_with (rw [HE1.out])
  refine Calls.mono HT.out ?_
  rintro e w2 ⟨rfl, b2, X, v, _, hL2, ho2, _, _⟩
  obtain ⟨A2, c2, rfl⟩ := own_fm ho2
  have l0 := hL2.c0
  have HO := (show Hid (w2.ownsRow w.heap.size 110 4 (.slice A2 L.length c2) L.length (emc ((List.range L.length).map (EE (lkE gs now) L)))) from T.own_base ho2 (by omega))
  have HB2 := (show Hid (Below w.heap.size w w2) from HB1.out.trans b2)
  clear HT HE1 b2 hL2 ho2 hE HB1
  go_wp2_with fail
  go_ret
  exact ⟨⟨_, rfl, HO.out⟩, HB2.out⟩
end Go.Proofs.YtbipjdgholdhcabGreat.N

namespace Go.Proofs.YtbipjdgholdhcabGreat.N
open Go.RowKit Go.Maps
open Go.Proofs.YtbipjdgholdhcabGreat.T
/-- What Parts answers. -/
def PaR (gs : GL) (r : Int) (l : List Em) (cd : Int) : Prop := ((ckG gs).2 ≠ 0 → cd = (ckG gs).2 ∧ l = []) ∧ ((ckG gs).2 = 0 → (r < 0 ∨ (gs.length : Int) ≤ r → cd = 1 ∧ l = []) ∧ ∀ (k : Nat) g, r = k → gs[k]? = some g → cd = 0 ∧ ∃ now, KnF gs now ∧ l = (List.range g.2.length).map (EE (lkE gs now) g.2))
theorem below_dr (w : World) : Below w.heap.size w w.drew := ⟨rfl, rfl, rfl, Nat.le_refl _, fun _ _ => rfl⟩
theorem enters_pts (args : Array Value) (w : World) : (callFunc 75 args).run Tryz.prog w = .ok (.enter 75 args) w := enters_of Tryz.func75 (by kernel_rfl) rfl args w
set_option maxRecDepth 100000 in
set_option maxHeartbeats 8000000 in
theorem partsP_any (gs : GL) (A : Option Addr) (c : Nat) (r : Int) (w : World) (hp : GI w A gs) :
    Calls Tryz.prog 58 #[.agg #[.slice A gs.length c], .int .i64 r] w fun e w' => (∃ v l cd, e = .returned (.tuple #[v, .int .i64 cd]) ∧ PaR gs r l cd ∧ w'.ownsRow w.heap.size 110 4 v l.length (emc l)) ∧ Below w.heap.size w w' := by
  obtain ⟨w1, hw1⟩ : ∃ w1, w1 = w.alloc (.cells #[.slice A gs.length c] 24) := ⟨_, rfl⟩
  have HE1 := (show Hid (w.alloc (.cells #[.slice A gs.length c] 24) = w1) from hw1.symm)
  have HB1 := (show Hid (Below w.heap.size w w1) from by rw [hw1]; exact below_box _ _)
  have HG1 := (show Hid (GX w1 w.heap.size (.slice A gs.length c)) from by rw [hw1]; exact GX.mk (heap_alloc_new w _))
  have q1 := HG1.out.cl
  have HN := hid_of (knownOf_any gs A c w1 (hp.later HB1.out))
  have HP := (show Hid (GI w A gs) from hp)
  clear hw1 hp
  go_enter Tryz.func58, Tryz.ntmps58
  go_wp2_with (rw [HE1.out])
  refine Calls.mono HN.out ?_
  rintro e w2 ⟨⟨m, v, rfl, h1, h2⟩, b2⟩
  have HB2 := (show Hid (Below w.heap.size w w2) from HB1.out.trans (b2.mono HB1.out.size))
  have HG2 := (show Hid (GX w2 w.heap.size (.slice A gs.length c)) from HG1.out.below b2)
  have hs1 := HB1.out.size
  clear HN HE1 q1 b2 HG1
  by_cases hz : (ckG gs).2 = 0
  · obtain ⟨mb, Ar, cr, now, rfl, rfl, _, hm2, hF, hl, hok, ho⟩ := h2 hz
    have tz : ((ckG gs).2 != 0) = false := by rw [hz]; rfl
    have hR := ckG_ok.1 hz
    have hn200 := hR.n2
    obtain ⟨w3, hw3⟩ : ∃ w3, w3 = w2.alloc (.cells #[.map (some mb), .slice Ar gs.length cr] 105) := ⟨_, rfl⟩
    have HE3 := (show Hid (w2.alloc (.cells #[.map (some mb), .slice Ar gs.length cr] 105) = w3) from hw3.symm)
    have hb3 : Below w2.heap.size w2 w3 := by rw [hw3]; exact below_box _ _
    have k0 : w3.cell? ⟨w2.heap.size, 0, none⟩ = some (.map (some mb)) := by rw [hw3]; exact (KX.new w2 _ _).c0
    have k1 : w3.cell? ⟨w2.heap.size, 1, none⟩ = some (.slice Ar gs.length cr) := by rw [hw3]; exact (KX.new w2 _ _).c1
    have HB3 := (show Hid (Below w.heap.size w w3) from HB2.out.trans (hb3.mono HB2.out.size))
    have q3 := (HG2.out.below hb3).cl
    have HKn := (show Hid (KnI w3 gs mb Ar now) from ⟨hm2.later hb3, own_rd (T.own_below ho hb3) hl, hl⟩)
    have HR := (show Hid (RtG gs ∧ KnF gs now ∧ now.length = gs.length ∧ OkN gs now ∧ (ckG gs).2 = 0) from ⟨hR, hF, hl, hok, hz⟩)
    clear h1 h2 ho hF hl hok hz hs1 hm2 hR hw3 hb3 HG2
    generalize hcd : (ckG gs).2 = cd at tz ⊢
    clear hcd
    by_cases h0 : r < 0
    · have HA := (show Hid (PaR gs r [] 1) from ⟨fun q => absurd HR.out.2.2.2.2 q, fun _ => ⟨fun _ => ⟨rfl, rfl⟩, fun k g e _ => absurd e (by omega)⟩⟩)
      clear HKn HR HP
      go_wp2_with (rw [HE3.out])
      refine bodyPost_ret (v := .tuple #[.slice none 0 0, .int .i64 1]) (by simp [results, Tryz.results58, go_sem]) rfl ⟨⟨_, [], 1, rfl, HA.out, World.ownsRow_nil _ _ _ _⟩, HB3.out⟩
    by_cases hg : (gs.length : Int) ≤ r
    · have HA := (show Hid (PaR gs r [] 1) from ⟨fun q => absurd HR.out.2.2.2.2 q, fun _ => ⟨fun _ => ⟨rfl, rfl⟩, fun k g e he => absurd (List.getElem?_eq_some_iff.1 he).1 (by omega)⟩⟩)
      have hg2 : r ≥ (gs.length : Int) := hg
      clear HKn HR HP
      go_wp2_with (rw [HE3.out])
      refine bodyPost_ret (v := .tuple #[.slice none 0 0, .int .i64 1]) (by simp [results, Tryz.results58, go_sem]) rfl ⟨⟨_, [], 1, rfl, HA.out, World.ownsRow_nil _ _ _ _⟩, HB3.out⟩
    obtain ⟨k, rfl⟩ : ∃ k : Nat, r = k := ⟨r.toNat, by omega⟩
    have hk : k < gs.length := by omega
    obtain ⟨g, hgk⟩ : ∃ g, gs[k]? = some g := ⟨_, List.getElem?_eq_getElem hk⟩
    have hmem := List.mem_of_getElem? hgk
    obtain ⟨b, o, A2, c2, rfl, lb, x0, x1, r2⟩ := HP.out.d k g hgk
    have x0' := (HB3.out.cell (p := ⟨b, o + k * 2, none⟩) lb).trans x0
    have x1' := (HB3.out.cell (p := ⟨b, o + k * 2 + 1, none⟩) lb).trans x1
    have z0 : (0 : Int) ≤ (k : Int) := by omega
    have z1 : (k : Int) < (gs.length : Int) := by omega
    have hg3 : ¬ (k : Int) ≥ (gs.length : Int) := by omega
    have HC := (show Hid (∀ _ : Unit, Calls Tryz.prog 75 #[.agg #[.map (some mb), .slice Ar gs.length cr], .slice A2 g.2.length c2] w3.drew fun e w' => (∃ v, e = .returned v ∧ w'.ownsRow w3.heap.size 110 4 v g.2.length (emc ((List.range g.2.length).map (EE (lkE gs now) g.2)))) ∧ Below w3.heap.size w3 w') from fun _ => by
      have hne : now ≠ [] := by rintro rfl; have h1 := HR.out.2.2.1; have h2 := HR.out.1.n1; rw [← h1] at h2; exact absurd h2 (by decide)
      have t := parts_any (ptR_of HR.out.1 HP.out HR.out.2.2.2.1 hmem) mb Ar A2 cr c2 w3.drew (HKn.out.later (below_dr w3)) hne ((r2.below HB3.out (Nat.le_refl _)).below (below_dr w3) (Nat.le_refl _))
      rw [HR.out.2.2.1] at t
      refine t.mono ?_
      rintro e w' ⟨h1, h2⟩
      exact ⟨h1, ⟨h2.os, h2.tape, h2.output, h2.size, h2.block⟩⟩)
    have HA := (show Hid (PaR gs k ((List.range g.2.length).map (EE (lkE gs now) g.2)) 0) from ⟨fun q => absurd HR.out.2.2.2.2 q, fun _ => ⟨fun q => by omega, fun k2 g2 e he => by
      have e2 : k = k2 := by omega
      subst e2
      rw [hgk] at he
      obtain rfl := Option.some.inj he
      exact ⟨rfl, now, HR.out.2.1, rfl⟩⟩⟩)
    have HSz := (show Hid (w.heap.size ≤ w3.heap.size) from HB3.out.size)
    clear hgk hmem x0 x1 r2 HKn HR HP hg hk
    go_wp2_with (rw [HE3.out])
    go_region_law (refine step_call2 enters_pts rfl _ _ _ _ (by rfl) (.agg #[.map (some mb), .slice Ar gs.length cr]) (.slice A2 g.2.length c2) (by rfl) (by rfl) ?_; with_reducible refine (HC.out ()).mono ?_; rintro e w4 ⟨⟨v4, rfl, ho4⟩, b4⟩; refine ⟨_, rfl, ?_⟩)
    all_goals
      have HO4 := hid_of ho4
      have HB4 := hid_of b4
      clear ho4 b4
      go_wp2_with fail
      refine bodyPost_ret (v := .tuple #[v4, .int .i64 0]) (by simp [results, Tryz.results58, go_sem]) rfl ⟨⟨_, _, 0, rfl, HA.out, by rw [List.length_map, List.length_range]; exact T.own_base HO4.out HSz.out⟩, HB3.out.trans (HB4.out.mono HSz.out)⟩
  · obtain ⟨rfl, rfl⟩ := h1 hz
    have tz : ((ckG gs).2 != 0) = true := by rw [bne, beq_eq_false_iff_ne.2 hz]; rfl
    have HR := (show Hid (PaR gs r [] (ckG gs).2) from ⟨fun _ => ⟨rfl, rfl⟩, fun q => absurd q hz⟩)
    clear h1 h2 hz hs1 HG2 HP
    have HB3 := (show Hid (Below w2.heap.size w2 (w2.alloc (.cells #[.map none, .slice none 0 0] 105))) from below_box _ _)
    generalize hcd : (ckG gs).2 = cd at tz HR ⊢
    clear hcd
    go_wp2_with fail
    refine bodyPost_ret (v := .tuple #[.slice none 0 0, .int .i64 cd]) (by simp [results, Tryz.results58, go_sem]) rfl ⟨⟨_, [], cd, rfl, HR.out, World.ownsRow_nil _ _ _ _⟩, HB2.out.trans (HB3.out.mono HB2.out.size)⟩
end Go.Proofs.YtbipjdgholdhcabGreat.N

namespace Go.Proofs.YtbipjdgholdhcabGreat.N
open Go.RowKit Go.Maps
open Go.Proofs.YtbipjdgholdhcabGreat.T
/-- A pattern in which each call gives way to a node without parts. -/
def seN (nu : ByteArray → Bool) (n : Nd) : Nd := if n.op = 6 then (if nu n.tx then ⟨1, 0, ⟨#[]⟩, 0, 0, 0, 0⟩ else ⟨3, 0, ⟨#[]⟩, 0, 0, 0, 0⟩) else n
def seL (nu : ByteArray → Bool) (L : List Nd) : List Nd := L.map (seN nu)
theorem seN_6 {nu : ByteArray → Bool} {n : Nd} (h : ¬ n.op = 6) : seN nu n = n := by unfold seN; rw [if_neg h]
theorem seN_op {nu : ByteArray → Bool} {n : Nd} : (n.op = 6 ∧ ((seN nu n).op = 1 ∨ (seN nu n).op = 3)) ∨ (¬ n.op = 6 ∧ seN nu n = n) := by
  by_cases h : n.op = 6
  · refine .inl ⟨h, ?_⟩
    unfold seN
    rw [if_pos h]
    split
    · exact .inl rfl
    · exact .inr rfl
  · exact .inr ⟨h, seN_6 h⟩
theorem seN_ar {nu : ByteArray → Bool} {n : Nd} : ar (seN nu n).op = ar n.op := by
  rcases seN_op (nu := nu) (n := n) with ⟨h, e | e⟩ | ⟨_, e⟩
  · rw [h, e]; rfl
  · rw [h, e]; rfl
  · rw [e]
theorem seN_eq {nu : ByteArray → Bool} {n : Nd} {op : Int} (h : ¬ op = 1) (h3 : ¬ op = 3) (h6 : ¬ op = 6) : ((seN nu n).op = op) = (n.op = op) := by
  rcases seN_op (nu := nu) (n := n) with ⟨g, e⟩ | ⟨_, e⟩
  · refine propext ⟨fun q => ?_, fun q => ?_⟩ <;> omega
  · rw [e]
theorem seN_al {nu : ByteArray → Bool} {n : Nd} (h : alE n = 0) : alE (seN nu n) = 0 := by
  by_cases g : n.op = 6
  · unfold seN
    rw [if_pos g]
    split <;> rfl
  · rw [seN_6 g]; exact h
theorem opAt_se {nu : ByteArray → Bool} {L : List Nd} (k : Nat) : arN (T.opAt (seL nu L) k) = arN (T.opAt L k) ∧ ∀ op : Int, ¬ op = 1 → ¬ op = 3 → ¬ op = 6 → ((T.opAt (seL nu L) k = op) = (T.opAt L k = op)) := by
  unfold T.opAt seL
  rw [List.getElem?_map]
  cases h : L[k]? with
  | none => exact ⟨rfl, fun _ _ _ _ => rfl⟩
  | some n => exact ⟨by show arN (seN nu n).op = _; unfold arN; rw [seN_ar], fun op a b c => seN_eq a b c⟩
theorem mk_se {nu : ByteArray → Bool} {L : List Nd} (k : Nat) {op op2 : Int} (ha : arN op2 = arN op) (ho : arN op = 2 → op2 = op) (h7 : arN op = 2 → op = 7 ∨ op = 8) (st : List Pt) (h2 : arN op ≤ 2) : mk (seL nu L) k op2 st = mk L k op st := by
  unfold mk
  rw [ha]
  by_cases e0 : arN op = 0
  · rw [if_pos e0, if_pos e0]
  rw [if_neg e0, if_neg e0]
  by_cases e1 : arN op = 1
  · rw [if_pos e1, if_pos e1]
  rw [if_neg e1, if_neg e1]
  have e2 : arN op = 2 := by omega
  have eo := ho e2
  have e7 := h7 e2
  subst eo
  have key : ∀ j, (T.opAt (seL nu L) j = op2) = (T.opAt L j = op2) := fun j => (opAt_se j).2 op2 (by omega) (by omega) (by omega)
  simp only [key]
theorem arN_le2 (op : Int) : arN op ≤ 2 := by unfold arN; have := ar_hi op; omega
theorem arN_78 {op : Int} (h : arN op = 2) : op = 7 ∨ op = 8 := by
  unfold arN ar at h
  split at h
  · exact absurd h (by decide)
  · split at h
    · exact absurd h (by decide)
    · split at h
      · assumption
      · exact absurd h (by decide)
theorem run_se {nu : ByteArray → Bool} {L : List Nd} : ∀ k, run (seL nu L) k = run L k := by
  have one : ∀ k st, mk (seL nu L) k (T.opAt (seL nu L) k) st = mk L k (T.opAt L k) st := fun k st => by
    have ha := (opAt_se (nu := nu) (L := L) k).1
    refine mk_se k ha (fun h => ?_) (fun h => arN_78 h) st (arN_le2 _)
    have h7 := arN_78 h
    have hq := (opAt_se (nu := nu) (L := L) k).2 (T.opAt L k) (by omega) (by omega) (by omega)
    exact of_eq_true (hq.trans (eq_true rfl))
  intro k
  induction k with
  | zero => rfl
  | succ k ih =>
    rw [run, run, ih, one]
    rw [(opAt_se (nu := nu) (L := L) k).1]
theorem pt_se {nu : ByteArray → Bool} {L : List Nd} (k : Nat) : pt (seL nu L) k = pt L k := by
  have h := run_succ (seL nu L) k
  have g := run_succ L k
  rw [run_se] at h
  rw [h] at g
  injection g
theorem rt_se {nu : ByteArray → Bool} {L : List Nd} (h : Rt L) : Rt (seL nu L) := by
  have hl : (seL nu L).length = L.length := by unfold seL; exact List.length_map ..
  refine ⟨by rw [hl]; exact h.len, fun k hk => ?_, by rw [hl, run_se]; exact h.one⟩
  rw [hl] at hk
  have hn : L[k]? = some L[k] := List.getElem?_eq_getElem hk
  have hk2 := er_ok hn (h.each k hk)
  have e := h.each k hk
  unfold er at e ⊢
  rw [hn] at e
  have hs : (seL nu L)[k]? = some (seN nu L[k]) := by unfold seL; rw [List.getElem?_map, hn]; rfl
  rw [hs]
  have hal := hk2.al
  have h1 := seN_al (nu := nu) hal
  have h2 : arN (seN nu L[k]).op = arN L[k].op := by unfold arN; rw [seN_ar]
  simp only [h1, h2, run_se, pt_se, hal] at e ⊢
  exact e
theorem kdR_se {nu : ByteArray → Bool} {L : List Nd} (k : Nat) : kdR (seL nu L) k = kdR L k := by
  unfold kdR
  rw [run_se, (opAt_se (nu := nu) (L := L) k).1]
theorem rtG_se {nu : ByteArray → Bool} {L : List Nd} (h : Rt L) : RtG [(⟨#[]⟩, seL nu L)] := by
  have hr := rt_se (nu := nu) h
  refine ⟨Nat.le_refl 1, (by show 1 ≤ 200; omega), fun g hg => ?_, fun g hg => ?_, ?_, ⟨fun i j a b ha hb _ => ?_, fun g hg n hn h6 => ?_⟩⟩
  · rw [List.mem_singleton.1 hg]; exact .inr ⟨rfl, rfl⟩
  · rw [List.mem_singleton.1 hg, hr.ck]
  · have := hr.len
    simp
    omega
  · have h1 := (List.getElem?_eq_some_iff.1 ha).1
    have h2 := (List.getElem?_eq_some_iff.1 hb).1
    simp at h1 h2
    omega
  · exfalso
    rw [List.mem_singleton.1 hg] at hn
    unfold seL at hn
    obtain ⟨m, _, rfl⟩ := List.mem_map.1 hn
    rcases seN_op (nu := nu) (n := m) with ⟨_, e⟩ | ⟨g6, e⟩
    · omega
    · rw [e] at h6; exact g6 h6
theorem nuD_se {nu r : ByteArray → Bool} {n : Nd} {x y : Bool} : nuD (seN nu n) x y r = nuD n x y nu := by
  by_cases h : n.op = 6
  · have e : nuD n x y nu = nu n.tx := by
      unfold nuD
      rw [if_neg (by omega), if_neg (by omega), if_pos h]
    rw [e]
    unfold seN
    rw [if_pos h]
    cases nu n.tx <;> rfl
  · rw [seN_6 h]
    unfold nuD
    simp only [h, if_false]
theorem nuL_se {nu r : ByteArray → Bool} {L : List Nd} : ∀ k, k ≤ L.length → nuL (kdR (seL nu L)) r (seL nu L) k = nuL (kdR L) nu L k := by
  intro k
  induction k with
  | zero => intro _; rfl
  | succ k ih =>
    intro hk
    have hn : L[k]? = some L[k] := List.getElem?_eq_getElem (by omega)
    have hs : (seL nu L)[k]? = some (seN nu L[k]) := by unfold seL; rw [List.getElem?_map, hn]; rfl
    rw [nuL_succ hn, nuL_succ hs, ih (by omega), kdR_se, nuD_se]
theorem ee_nu {L : List Nd} {r : ByteArray → Em} (j : Nat) : (EE r L j).nu = nuA (kdR L) (fun s => (r s).nu) L j := by
  unfold EE nuA
  rw [← emL_nu _ (Nat.le_refl _), List.getElem?_map]
  cases (emL (kdR L) r L L.length)[j]? <;> rfl
/-- What layer 9 says of the parts of a pattern whose calls gave way. -/
theorem se_nu {nu : ByteArray → Bool} {L : List Nd} {r : ByteArray → Em} (j : Nat) : (EE r (seL nu L) j).nu = nuA (kdR L) nu L j := by
  rw [ee_nu]
  unfold nuA
  have hl : (seL nu L).length = L.length := by unfold seL; exact List.length_map ..
  rw [hl, nuL_se _ (Nat.le_refl _)]
theorem seL_len {nu : ByteArray → Bool} {L : List Nd} : (seL nu L).length = L.length := by unfold seL; exact List.length_map ..
/-- What Parts answers of such a pattern as a grammar alone. -/
theorem pa_se {nu : ByteArray → Bool} {L : List Nd} (h : Rt L) {l : List Em} {cd : Int} (hp : PaR [(⟨#[]⟩, seL nu L)] 0 l cd) : cd = 0 ∧ l.length = L.length ∧ l.map Em.nu = (List.range L.length).map (nuA (kdR L) nu L) := by
  obtain ⟨_, h2⟩ := hp
  have hz := ckG_ok.2 (rtG_se (nu := nu) h)
  obtain ⟨_, h3⟩ := h2 hz
  obtain ⟨e1, now, _, e2⟩ := h3 0 (⟨#[]⟩, seL nu L) rfl rfl
  have e2 : l = (List.range (seL nu L).length).map (EE (lkE [(⟨#[]⟩, seL nu L)] now) (seL nu L)) := e2
  rw [seL_len] at e2
  refine ⟨e1, by rw [e2, List.length_map, List.length_range], ?_⟩
  rw [e2, List.map_map]
  congr 1
  funext j
  exact se_nu j
end Go.Proofs.YtbipjdgholdhcabGreat.N

namespace Go.Proofs.YtbipjdgholdhcabGreat.N
open Go.RowKit Go.Maps
open Go.Proofs.YtbipjdgholdhcabGreat.T
/-- Which rules are heads of which. -/
def hdM (gs : GL) (nb : List Bool) : Mx := fun i q => match gs[i]? with
  | none => false
  | some g => hbA (kdR g.2) (nuA (kdR g.2) (lkB gs nb) g.2) (fdG gs) g.2 (g.2.length - 1) q
theorem hdM_of {gs : GL} {nb : List Bool} {i q : Nat} {g : ByteArray × List Nd} (h : gs[i]? = some g) : hdM gs nb i q = hbA (kdR g.2) (nuA (kdR g.2) (lkB gs nb) g.2) (fdG gs) g.2 (g.2.length - 1) q := by unfold hdM; rw [h]
theorem rt_facts {gs : GL} (hR : RtG gs) {g : ByteArray × List Nd} (hm : g ∈ gs) : Rt g.2 ∧ Kds (kdR g.2) g.2 ∧ (∀ n ∈ g.2, alE n = 0) ∧ 0 < g.2.length ∧ g.2.length ≤ 2048 := by
  have hrt : Rt g.2 := rt_of (hR.ck _ hm)
  refine ⟨hrt, kds_R hrt, fun n q => ?_, ?_, by have := hrt.len; omega⟩
  · obtain ⟨k, hk⟩ := List.getElem?_of_mem q
    exact (er_ok hk (hrt.each k (List.getElem?_eq_some_iff.1 hk).1)).al
  · apply Nat.pos_of_ne_zero
    intro e
    have h1 := hrt.one
    have e2 : g.2 = [] := List.eq_nil_of_length_eq_zero e
    rw [e2] at h1
    simp [run] at h1
theorem hdM_lt {gs : GL} (hR : RtG gs) {nb : List Bool} (i q : Nat) (h : hdM gs nb i q = true) : i < gs.length ∧ q < gs.length := by
  unfold hdM at h
  cases e : gs[i]? with
  | none => rw [e] at h; cases h
  | some g =>
    rw [e] at h
    obtain ⟨_, hk, ha, h0, _⟩ := rt_facts hR (List.mem_of_getElem? e)
    have h : hbA (kdR g.2) (nuA (kdR g.2) (lkB gs nb) g.2) (fdG gs) g.2 (g.2.length - 1) q = true := h
    obtain ⟨j, _, hj⟩ := (hb_iff hk ha g.2.length (g.2.length - 1) (by omega) (by omega) q).1 h
    refine ⟨(List.getElem?_eq_some_iff.1 e).1, ?_⟩
    unfold clB at hj
    cases w : g.2[j]? with
    | none => rw [w] at hj; cases hj
    | some n =>
      rw [w] at hj
      simp only [Bool.and_eq_true, decide_eq_true_eq] at hj
      exact fdG_lt hj.2
/-- A rule's heads as a list. -/
def hdl (n : Nat) (c : Mx) (i : Nat) : List Nat := (List.range n).filter (c i)
theorem hdl_mem {n : Nat} {c : Mx} (hc : ∀ i j, c i j = true → i < n ∧ j < n) {i q : Nat} : q ∈ hdl n c i ↔ c i q = true := by
  unfold hdl
  rw [List.mem_filter, List.mem_range]
  exact ⟨fun h => h.2, fun h => ⟨(hc i q h).2, h⟩⟩
theorem hdl_up (n : Nat) (c : Mx) (i : Nat) : (hdl n c i).Pairwise (· < ·) := List.Pairwise.filter _ List.pairwise_lt_range
theorem hdl_len (n : Nat) (c : Mx) (i : Nat) : (hdl n c i).length ≤ n := by
  have := List.length_filter_le (c i) (List.range n)
  rw [List.length_range] at this
  exact this
/-- Bits, as a list of the numbers that are set. -/
theorem bits_of {n : Nat} {c : Nat → Bool} {out : List Bool} (hl : out.length = n) (h : ∀ (q : Nat), out[q]? = some true ↔ c q = true) : out = (List.range n).map c := by
  apply List.ext_getElem?
  intro i
  by_cases hi : i < n
  · rw [List.getElem?_map, List.getElem?_range hi]
    obtain ⟨b, hb⟩ : ∃ b, out[i]? = some b := ⟨_, List.getElem?_eq_getElem (by omega)⟩
    rw [hb]
    show some b = some (c i)
    congr 1
    rw [Bool.eq_iff_iff, ← h i, hb]
    exact ⟨fun e => by rw [e], fun e => Option.some.inj e⟩
  · rw [List.getElem?_eq_none (by omega), List.getElem?_eq_none (by rw [List.length_map, List.length_range]; omega)]
/-- Does a node repeat its part? -/
def rpB (n : Nd) : Bool := n.op == 9 || (n.op == 10 || n.op == 15)
/-- A pattern's loops. -/
def lpK (i : Nat) (L : List Nd) (nu : Nat → Bool) : Nat → List (Nat × Nat)
  | 0 => []
  | k + 1 => match L[k]? with
    | none => lpK i L nu k
    | some n => if rpB n && nu (k - 1) then lpK i L nu k ++ [(i, k)] else lpK i L nu k
theorem lpK_succ {i : Nat} {L : List Nd} {nu : Nat → Bool} {k : Nat} {n : Nd} (h : L[k]? = some n) : lpK i L nu (k + 1) = if rpB n && nu (k - 1) then lpK i L nu k ++ [(i, k)] else lpK i L nu k := by rw [lpK, h]
theorem lpK_len {i : Nat} {L : List Nd} {nu : Nat → Bool} : ∀ k, (lpK i L nu k).length ≤ k := by
  intro k
  induction k with
  | zero => exact Nat.le_refl _
  | succ k ih =>
    rw [lpK]
    split
    · omega
    · split
      · rw [List.length_append, List.length_singleton]; omega
      · omega
/-- Those of all rules. -/
def lpG (gs : GL) (nb : List Bool) : Nat → List (Nat × Nat)
  | 0 => []
  | i + 1 => match gs[i]? with
    | none => lpG gs nb i
    | some g => lpG gs nb i ++ lpK i g.2 (nuA (kdR g.2) (lkB gs nb) g.2) g.2.length
theorem lpG_succ {gs : GL} {nb : List Bool} {i : Nat} {g : ByteArray × List Nd} (h : gs[i]? = some g) : lpG gs nb (i + 1) = lpG gs nb i ++ lpK i g.2 (nuA (kdR g.2) (lkB gs nb) g.2) g.2.length := by rw [lpG, h]
theorem lpG_len {gs : GL} {nb : List Bool} {m : Nat} (h : ∀ g ∈ gs, g.2.length ≤ m) : ∀ i, (lpG gs nb i).length ≤ i * m := by
  intro i
  induction i with
  | zero => exact Nat.zero_le _
  | succ i ih =>
    rw [lpG, Nat.succ_mul]
    split
    · omega
    · next g e =>
      have h1 := lpK_len (i := i) (L := g.2) (nu := nuA (kdR g.2) (lkB gs nb) g.2) g.2.length
      have h2 := h g (List.mem_of_getElem? e)
      rw [List.length_append]
      omega
/-- A node that repeats has a part, right ahead of it. -/
theorem rp_pos {L : List Nd} (h : Rt L) {k : Nat} {n : Nd} (hn : L[k]? = some n) (hr : rpB n = true) : 0 < k := by
  have hlt := (List.getElem?_eq_some_iff.1 hn).1
  have hal := (er_ok hn (h.each k hlt)).al
  obtain ⟨hop, _⟩ := al_facts hal
  have h1 : n.op = 9 ∨ n.op = 10 ∨ n.op = 15 := by
    unfold rpB at hr
    simp only [Bool.or_eq_true, beq_iff_eq] at hr
    omega
  have ha := arN_1 hop (by omega) (by omega)
  have hk := (kds_R h).n k n hn
  have hx : ∃ j, (kdR L k)[0]? = some j := ⟨_, List.getElem?_eq_getElem (by omega)⟩
  obtain ⟨j, hj⟩ := hx
  have := (kds_R h).lt k j hlt (List.mem_of_getElem? hj)
  omega
def spV (p : Nat × Nat) : List Value := [.int .i64 (p.1 : Int), .int .i64 (p.2 : Int)]
def spc (l : List (Nat × Nat)) : List Value := l.flatMap spV
theorem spc_app (a b : List (Nat × Nat)) : spc (a ++ b) = spc a ++ spc b := List.flatMap_append
theorem spc_one (p : Nat × Nat) : spc [p] = spV p := by unfold spc; rw [List.flatMap_cons, List.flatMap_nil, List.append_nil]
theorem spc_len (l : List (Nat × Nat)) : (spc l).length = l.length * 2 := by
  induction l with
  | nil => rfl
  | cons a l ih => show (spV a ++ spc l).length = _; rw [List.length_append, ih, List.length_cons]; show 2 + _ = _; omega
theorem sp_one (p : Nat × Nat) : ∀ u ∈ spV p, u.oneCell' = true := fun u hu => by
  simp only [spV, List.mem_cons, List.not_mem_nil, or_false] at hu
  rcases hu with rfl | rfl <;> rfl
end Go.Proofs.YtbipjdgholdhcabGreat.N

namespace Go.Proofs.YtbipjdgholdhcabGreat.N
open Go.RowKit Go.Maps
open Go.Proofs.YtbipjdgholdhcabGreat.T
/-- A view's box. -/
structure VX (W : World) (b : Nat) (r m k : Value) : Prop where
  heap : W.heap[b]? = some (.cells #[r, m, k] 66 (0, 0))
theorem VX.lt {W : World} {b : Nat} {r m k : Value} (h : VX W b r m k) : b < W.heap.size := (Array.getElem?_eq_some_iff.1 h.heap).1
theorem VX.same {W W' : World} {b : Nat} {r m k : Value} (h : VX W b r m k) (hb : W'.heap[b]? = W.heap[b]?) : VX W' b r m k := ⟨hb.trans h.heap⟩
theorem VX.below {W W' : World} {b : Nat} {r m k : Value} (h : VX W b r m k) (hb : Below W.heap.size W W') : VX W' b r m k := h.same (hb.block b h.lt)
theorem VX.c0 {W : World} {b : Nat} {r m k : Value} (h : VX W b r m k) : W.cell? ⟨b, 0, none⟩ = some r := by rw [cell_of_row W b 0 _ 66 (0, 0) h.heap]; rfl
theorem VX.c1 {W : World} {b : Nat} {r m k : Value} (h : VX W b r m k) : W.cell? ⟨b, 1, none⟩ = some m := by rw [cell_of_row W b 1 _ 66 (0, 0) h.heap]; rfl
theorem VX.c2 {W : World} {b : Nat} {r m k : Value} (h : VX W b r m k) : W.cell? ⟨b, 2, none⟩ = some k := by rw [cell_of_row W b 2 _ 66 (0, 0) h.heap]; rfl
theorem VX.fz {W : World} {b : Nat} {r m k : Value} (h : VX W b r m k) (j : Nat) : W.frozen? ⟨b, j, none⟩ = false := frozen_of_row W b j _ 66 h.heap
theorem VX.all {W : World} {b : Nat} {r m k : Value} (h : VX W b r m k) (r2 m2 k2 : Value) : VX (((W.setCell ⟨b, 0, none⟩ r2).setCell ⟨b, 1, none⟩ m2).setCell ⟨b, 2, none⟩ k2) b r2 m2 k2 := by
  have h1 : VX (W.setCell ⟨b, 0, none⟩ r2) b r2 m k := ⟨by rw [heap_setCell_same W b 0 _ 66 _ h.heap]; rfl⟩
  have h2 : VX ((W.setCell ⟨b, 0, none⟩ r2).setCell ⟨b, 1, none⟩ m2) b r2 m2 k := ⟨by rw [heap_setCell_same _ b 1 _ 66 _ h1.heap]; rfl⟩
  exact ⟨by rw [heap_setCell_same _ b 2 _ 66 _ h2.heap]; rfl⟩
theorem VX.new (W : World) (r m k : Value) : VX (W.alloc (.cells #[r, m, k] 66)) W.heap.size r m k := ⟨heap_alloc_new W _⟩
theorem ret_vx2 {s t : Nat} {fn : Func} {R : Ending → World → Prop} {act : Act} {W : World} {b : Nat} {r m k x : Value} (hF : fn.results = #[.cell s 66, .tmp t]) (hd : act.defers = []) (h6 : act.tmps.getD s undef = .pointer (some ⟨b, 0, none⟩)) (h7 : act.tmps.getD t undef = x) (hT : VX W b r m k) (hR : R (.returned (.tuple #[.agg #[r, m, k], x])) W) : bodyPost Tryz.prog fn R .ret act W := by
  have c0 : W.cell? ⟨b, 0, none⟩ = _ := hT.c0
  have c1 : W.cell? ⟨b, 1, none⟩ = _ := hT.c1
  have c2 : W.cell? ⟨b, 2, none⟩ = _ := hT.c2
  refine bodyPost_ret (v := .tuple #[.agg #[r, m, k], x]) ?_ hd hR
  simp only [Array.getD_eq_getD_getElem?] at h6 h7
  simp [results, hF, go_sem, h6, h7, c0, c1, c2]
/-- While the names are told. -/
structure VwS (w wr : World) (u vk : Value) (mb kb : Nat) (Ak : Option Addr) (now : List Em) (gt : GL) : Prop where
  b : Below w.heap.size w wr
  g : GX wr w.heap.size u
  r : VX wr (w.heap.size + 1) (.slice none 0 0) (.map none) (.slice none 0 0)
  k : VX wr kb u (.map (some mb)) vk
  m : NmM wr mb gt
  d : RdE wr Ak now
  e1 : w.heap.size + 2 ≤ mb
  e2 : kb = mb + 1
  e3 : ∀ g o, Ak = some ⟨g, o, none⟩ → g < mb
theorem VwS.later {w wr w2 : World} {u vk : Value} {mb kb : Nat} {Ak : Option Addr} {now : List Em} {gt : GL} (h : VwS w wr u vk mb kb Ak now gt) (hb : Below wr.heap.size wr w2) : VwS w w2 u vk mb kb Ak now gt := ⟨h.b.trans (hb.mono h.b.size), h.g.below hb, h.r.below hb, h.k.below hb, h.m.later hb, h.d.later hb, h.e1, h.e2, h.e3⟩
theorem VwS.put {w wX w1 : World} {u vk : Value} {mb kb k : Nat} {Ak : Option Addr} {now : List Em} {gt : GL} {g : ByteArray × List Nd} {D : DataW Unit} (h : VwS w wX u vk mb kb Ak now gt) (hg : wX.grownBy w1 (some mb)) (ho : w1.ownsMap Tryz.prog 9 (plainElem Tryz.prog 3) mb (k + 1) (D.put (.string g.1.data.toList) (.lit (.int .i64 k)))) (hD : NmD D gt) (hf : fdG gt g.1 = none) (hk : gt.length = k) : VwS w w1 u vk mb kb Ak now (gt ++ [g]) := by
  have hm : Maps.IsMap D := by
    obtain ⟨es, clock, _, _, _, e⟩ := ho
    cases D with
    | map es => exact ⟨es, rfl⟩
    | _ => cases e
  have e1 := h.e1
  have e2 := h.e2
  have key : ∀ j, j < wX.heap.size → j ≠ mb → w1.heap[j]? = wX.heap[j]? := fun j hj hn => hg.block j hj (fun e => by injection e with e; exact hn e)
  refine ⟨h.b.grown hg h.b.size (fun j hj => by cases hj; omega), h.g.same (key _ h.g.lt (by omega)), h.r.same (key _ h.r.lt (by omega)), h.k.same (key _ h.k.lt (by omega)), ⟨⟨D.put (.string g.1.data.toList) (.lit (.int .i64 k)), ?_, ?_⟩⟩, h.d.same hg.size (fun g2 o2 e => key _ (by have := h.e3 g2 o2 e; have := h.m.lt; omega) (by have := h.e3 g2 o2 e; omega)), e1, e2, h.e3⟩
  · rw [List.length_append, List.length_singleton, hk]; exact ho
  · have := NmD.put hm hD g hf
    rw [hk] at this
    exact this
/-- What viewOf answers. -/
def VwR (w w' : World) (gs : GL) (A : Option Addr) (c : Nat) (e : Ending) : Prop := ((ckG gs).2 ≠ 0 → e = .returned (.tuple #[.agg #[.slice none 0 0, .map none, .slice none 0 0], .int .i64 (ckG gs).2])) ∧ ((ckG gs).2 = 0 → ∃ mb Ak ck now, e = .returned (.tuple #[.agg #[.slice A gs.length c, .map (some mb), .slice Ak gs.length ck], .int .i64 0]) ∧ NmM w' mb gs ∧ RdE w' Ak now ∧ KnF gs now ∧ now.length = gs.length ∧ OkN gs now ∧ w.heap.size ≤ mb)
set_option maxRecDepth 100000 in
set_option maxHeartbeats 16000000 in
theorem viewOf_any (gs : GL) (A : Option Addr) (c : Nat) (w : World) (hp : GI w A gs) :
    Calls Tryz.prog 23 #[.agg #[.slice A gs.length c]] w fun e w' => VwR w w' gs A c e ∧ Below w.heap.size w w' := by
  obtain ⟨w1, hw1⟩ : ∃ w1, w1 = (w.alloc (.cells #[.slice A gs.length c] 24)).alloc (.cells #[.slice none 0 0, .map none, .slice none 0 0] 66) := ⟨_, rfl⟩
  have HE1 := (show Hid ((w.alloc (.cells #[.slice A gs.length c] 24)).alloc (.cells #[.slice none 0 0, .map none, .slice none 0 0] 66) = w1) from hw1.symm)
  have HS1 := (show Hid (Below w.heap.size w w1 ∧ GX w1 w.heap.size (.slice A gs.length c) ∧ VX w1 (w.heap.size + 1) (.slice none 0 0) (.map none) (.slice none 0 0) ∧ w1.heap.size = w.heap.size + 2) from by
    have s1 := World.size_alloc w (.cells #[.slice A gs.length c] 24)
    refine ⟨by rw [hw1]; exact ((Below.refl _ _).alloc (Nat.le_refl _) _).alloc (by omega) _, by rw [hw1]; exact (GX.mk (heap_alloc_new w _)).below (below_box _ _), ?_, by rw [hw1, World.size_alloc, s1]⟩
    have h := VX.new (w.alloc (.cells #[.slice A gs.length c] 24)) (.slice none 0 0) (.map none) (.slice none 0 0)
    rw [s1, ← hw1] at h; exact h)
  have HRu := (show Hid (Calls Tryz.prog 39 #[.agg #[.slice A gs.length c]] w1 fun e w' => (∃ v now, e = .returned (.tuple #[v, .int .i64 (ckG gs).2]) ∧ RuR gs now ∧ w'.ownsRow w1.heap.size 110 4 v now.length (emc now)) ∧ Below w1.heap.size w1 w') from rulesP_any gs A c w1 (hp.later HS1.out.1))
  have HP := (show Hid (GI w A gs) from hp)
  have q1 := HS1.out.2.1.cl
  clear hw1 hp
  go_enter Tryz.func23, Tryz.ntmps23
  go_wp2_with (rw [HE1.out])
  refine HRu.out.mono ?_
  rintro e w2 ⟨⟨v, now, rfl, hr, ho⟩, b2⟩
  have HS2 := (show Hid (Below w.heap.size w w2 ∧ GX w2 w.heap.size (.slice A gs.length c) ∧ VX w2 (w.heap.size + 1) (.slice none 0 0) (.map none) (.slice none 0 0) ∧ w.heap.size + 2 ≤ w2.heap.size) from ⟨HS1.out.1.trans (b2.mono HS1.out.1.size), HS1.out.2.1.below b2, HS1.out.2.2.1.below b2, by have := b2.size; have := HS1.out.2.2.2; omega⟩)
  have q2 := HS2.out.2.1.cl
  by_cases hz : (ckG gs).2 = 0
  · have hR := ckG_ok.1 hz
    obtain ⟨hk, hl, hok⟩ := hr.1 hz
    rw [hl] at ho
    obtain ⟨Ak, ck, rfl⟩ := own_fm ho
    have hn200 := hR.n2
    have HAk := (show Hid (∀ g o, Ak = some ⟨g, o, none⟩ → g ≠ w.heap.size + 1) from fun g o e q => by
      rw [e] at ho
      obtain ⟨g2, c2, e2, h2, _⟩ := ho.form (by have := hR.n1; omega)
      injection e2 with e3 _ _
      obtain ⟨rfl, _⟩ := Addr.mk.inj (Option.some.inj e3)
      have := HS1.out.2.2.2
      omega)
    have HK := (show Hid (KnF gs now ∧ now.length = gs.length ∧ OkN gs now) from ⟨hk, hl, hok⟩)
    obtain ⟨mb, hmb⟩ : ∃ mb, mb = w2.heap.size := ⟨_, rfl⟩
    have HMb := (show Hid (w2.heap.size = mb) from hmb.symm)
    obtain ⟨w3, hw3⟩ : ∃ w3, w3 = (w2.alloc (.map #[] 0)).alloc (.cells #[.slice A gs.length c, .map (some w2.heap.size), .slice Ak gs.length ck] 66) := ⟨_, rfl⟩
    have HE3 := (show Hid ((w2.alloc (.map #[] 0)).alloc (.cells #[.slice A gs.length c, .map (some w2.heap.size), .slice Ak gs.length ck] 66) = w3) from hw3.symm)
    have HS := (show Hid (VwS w w3 (.slice A gs.length c) (.slice Ak gs.length ck) mb (mb + 1) Ak now []) from by
      have s3 := World.size_alloc w2 (.map #[] 0)
      have b3 : Below w2.heap.size w2 w3 := by rw [hw3]; exact ((Below.refl _ _).alloc (Nat.le_refl _) _).alloc (by omega) _
      have hrd := own_rd ho hl
      have hnn : now ≠ [] := by rintro rfl; have := hR.n1; simp at hl; omega
      refine ⟨HS2.out.1.trans (b3.mono HS2.out.1.size), HS2.out.2.1.below b3, HS2.out.2.2.1.below b3, ?_, ?_, hrd.later b3, by rw [hmb]; exact HS2.out.2.2.2, rfl, fun g o e => by rw [hmb]; exact rde_lt hrd hnn g o e⟩
      · have h := VX.new (w2.alloc (.map #[] 0)) (.slice A gs.length c) (.map (some w2.heap.size)) (.slice Ak gs.length ck)
        rw [s3, ← hw3] at h
        rw [hmb]
        exact h
      · rw [hw3, hmb]; exact (NmM.nil w2).later (below_box _ _))
    have HGt := (show Hid (∀ (k : Nat), k < gs.length → ∃ g, gs[k]? = some g ∧ g.1.size ≤ 140737488355328 ∧ fdG (gs.take k) g.1 = none) from fun k hk => by
      have hg : gs[k]? = some gs[k] := List.getElem?_eq_getElem hk
      have hm := List.mem_of_getElem? hg
      refine ⟨_, hg, (HP.out.t _ hm).1, ?_⟩
      cases q : fdG (gs.take k) (gs[k]).1 with
      | none => rfl
      | some i =>
        obtain ⟨h, h1, h2, _⟩ := fdG_some q
        rw [List.getElem?_take] at h1
        by_cases hik : i < k
        · rw [if_pos hik] at h1
          have := hR.dn.d i k h _ h1 hg h2
          omega
        · rw [if_neg hik] at h1; cases h1)
    have tz : ((ckG gs).2 != 0) = false := by rw [hz]; rfl
    have HZ := (show Hid ((ckG gs).2 = 0) from hz)
    have hmm := @run_makeMap Tryz.prog
    have q3 := HS.out.g.cl
    clear hr ho hk hl hok b2 hw3 hmb hz hR HRu HS1 HE1 q1
    generalize (ckG gs).2 = cd at tz ⊢
    go_wp2_with (rw [HE3.out, HMb.out])
    clear HE3 HMb hmm q2 q3
    go_loopw [26] (fun t wr => ∃ k : Nat, k ≤ gs.length ∧ t = .int .i64 (k : Int) ∧ Hid (VwS w wr (.slice A gs.length c) (.slice Ak gs.length ck) mb (mb + 1) Ak now (gs.take k))) (fun t _ => gs.length - (intOf t).toNat)
    case atStart => exact ⟨0, Nat.zero_le _, by go_num, HS⟩
    case round =>
      obtain ⟨k, hk, rfl, HW⟩ := hrel
      clear HS
      by_cases hlt : k < gs.length
      · obtain ⟨g, hg, hsz, hfd⟩ := HGt.out k hlt
        obtain ⟨b, o, A2, c2, rfl, lb, x0, x1, r2⟩ := HP.out.d k g hg
        have x0' := (HW.out.b.cell (p := ⟨b, o + k * 2, none⟩) lb).trans x0
        have x1' := (HW.out.b.cell (p := ⟨b, o + k * 2 + 1, none⟩) lb).trans x1
        have z0 : (0 : Int) ≤ (k : Int) := by omega
        have z1 : (k : Int) < (gs.length : Int) := by omega
        obtain ⟨w4, hw4⟩ : ∃ w4, w4 = wr.alloc (.cells #[.string g.1, .slice A2 g.2.length c2] 52) := ⟨_, rfl⟩
        have HE4 := (show Hid (wr.alloc (.cells #[.string g.1, .slice A2 g.2.length c2] 52) = w4) from hw4.symm)
        have hb4 : Below wr.heap.size wr w4 := by rw [hw4]; exact below_box _ _
        have HR4 := (show Hid (RB w4 wr.heap.size g.1 (.slice A2 g.2.length c2)) from by rw [hw4]; exact ⟨heap_alloc_new wr _⟩)
        have HW4 := (show Hid (VwS w w4 (.slice (some ⟨b, o, none⟩) gs.length c) (.slice Ak gs.length ck) mb (mb + 1) Ak now (gs.take k)) from HW.out.later hb4)
        have k1 := HW4.out.k.c1
        have y0 := HR4.out.c0
        obtain ⟨D, hown, hD⟩ := HW4.out.m.ex
        have hlk : (gs.take k).length = k := by rw [List.length_take]; omega
        rw [hlk] at hown
        have HOm := (show Hid (w4.ownsMap Tryz.prog 9 (plainElem Tryz.prog 3) mb k D) from hown)
        have HPut := (show Hid (∀ w3, w4.grownBy w3 (some mb) → w3.ownsMap Tryz.prog 9 (plainElem Tryz.prog 3) mb (k + 1) (D.put (.string g.1.data.toList) (.lit (.int .i64 k))) → VwS w w3 (.slice (some ⟨b, o, none⟩) gs.length c) (.slice Ak gs.length ck) mb (mb + 1) Ak now (gs.take (k + 1))) from fun w3 h1 h2 => by
          rw [show gs.take (k + 1) = gs.take k ++ [g] from by rw [List.take_add_one, hg]; rfl]
          exact HW4.out.put h1 h2 hD hfd hlk)
        have hkey := key_of hsz
        clear hw4 hb4 hg hD hown hfd hlk HW HW4 HGt HP hsz x0 x1 r2 lb
        go_wp2_with (first
          | rw [HE4.out]
          | (at_mapUpdate
             refine wpList_mapUpdate_own _ rfl _ _ _ 63 rfl 9 3 keyed Tryz.underlying63 _ mb k D rfl HOm.out (by unfold maxLen; omega) _ _ (.string g.1.data.toList) rfl rfl hkey _ [] (plainElem_int Tryz.underlying3 (WalkArith.wf_i64 (by omega))) ?_
             intro w5 hown5 hgrow5
             have HS5 := (show Hid (VwS w w5 (.slice (some ⟨b, o, none⟩) gs.length c) (.slice Ak gs.length ck) mb (mb + 1) Ak now (gs.take (k + 1))) from HPut.out w5 hgrow5 hown5)
             clear hown5 hgrow5 HPut HOm hkey k1 y0 HE4))
        go_roundw
        case rel => exact ⟨k + 1, by omega, by go_num, HS5⟩
        case measure => simp [intOf]; omega
      · obtain rfl : k = gs.length := by omega
        have HF := (show Hid (VwS w wr (.slice A gs.length c) (.slice Ak gs.length ck) mb (mb + 1) Ak now gs) from by have h := HW.out; rw [List.take_length] at h; exact h)
        have HNe := (show Hid (∀ g o, Ak = some ⟨g, o, none⟩ → g ≠ w.heap.size + 1) from HAk.out)
        have HT := (show Hid (∀ W, W = ((wr.setCell ⟨w.heap.size + 1, 0, none⟩ (.slice A gs.length c)).setCell ⟨w.heap.size + 1, 1, none⟩ (.map (some mb))).setCell ⟨w.heap.size + 1, 2, none⟩ (.slice Ak gs.length ck) → VX W (w.heap.size + 1) (.slice A gs.length c) (.map (some mb)) (.slice Ak gs.length ck) ∧ NmM W mb gs ∧ RdE W Ak now ∧ Below w.heap.size w W) from fun W hW => by
          have h := HF.out
          have e1 := h.e1
          have hz : W.heap.size = wr.heap.size := by rw [hW, World.size_setCell, World.size_setCell, World.size_setCell]
          have key : ∀ j, j ≠ w.heap.size + 1 → W.heap[j]? = wr.heap[j]? := fun j hj => by
            rw [hW]; exact ((heap_setCell_other _ _ _ _ hj).trans (heap_setCell_other _ _ _ _ hj)).trans (heap_setCell_other _ _ _ _ hj)
          refine ⟨by rw [hW]; exact h.r.all _ _ _, h.m.same (key _ (by omega)), ?_, ?_⟩
          · exact h.d.same (by rw [hz]; exact Nat.le_refl _) (fun g o e => key g (fun q => HNe.out g o e q))
          · rw [hW]
            exact ((h.b.setCell (p := ⟨w.heap.size + 1, 0, none⟩) (Nat.le_succ _) _).setCell (p := ⟨w.heap.size + 1, 1, none⟩) (Nat.le_succ _) _).setCell (p := ⟨w.heap.size + 1, 2, none⟩) (Nat.le_succ _) _)
        have k0 := HF.out.k.c0
        have k1 := HF.out.k.c1
        have k2 := HF.out.k.c2
        have r0 := HF.out.r.c0
        have r1 := HF.out.r.c1
        have r2 := HF.out.r.c2
        have f0 := HF.out.r.fz 0
        have f1 := HF.out.r.fz 1
        have f2 := HF.out.r.fz 2
        have HMl := (show Hid (w.heap.size ≤ mb) from by have := HF.out.e1; show w.heap.size ≤ mb; omega)
        clear HW HGt HP HF
        go_wp2_with fail
        have HQ := (show Hid _ from HT.out _ rfl)
        refine ret_vx2 (s := 2) (t := 3) (b := w.heap.size + 1) (x := .int .i64 0) (by rfl) (by rfl) (by rfl) (by rfl) HQ.out.1 ?_
        exact ⟨⟨fun q => absurd HZ.out q, fun _ => ⟨mb, Ak, ck, now, rfl, HQ.out.2.1, HQ.out.2.2.1, HK.out.1, HK.out.2.1, HK.out.2.2, HMl.out⟩⟩, HQ.out.2.2.2⟩
  · have tz : ((ckG gs).2 != 0) = true := by rw [bne, beq_eq_false_iff_ne.2 hz]; rfl
    have HZ := (show Hid ((ckG gs).2 ≠ 0) from hz)
    obtain rfl := hr.2 hz
    obtain ⟨Ak, ck, rfl⟩ := own_fm ho
    have HT := (show Hid (∀ W, W = ((w2.setCell ⟨w.heap.size + 1, 0, none⟩ (.slice none 0 0)).setCell ⟨w.heap.size + 1, 1, none⟩ (.map none)).setCell ⟨w.heap.size + 1, 2, none⟩ (.slice none 0 0) → VX W (w.heap.size + 1) (.slice none 0 0) (.map none) (.slice none 0 0) ∧ Below w.heap.size w W) from fun W hW => by
      rw [hW]
      exact ⟨HS2.out.2.2.1.all _ _ _, ((HS2.out.1.setCell (p := ⟨w.heap.size + 1, 0, none⟩) (Nat.le_succ _) _).setCell (p := ⟨w.heap.size + 1, 1, none⟩) (Nat.le_succ _) _).setCell (p := ⟨w.heap.size + 1, 2, none⟩) (Nat.le_succ _) _⟩)
    have r0 := HS2.out.2.2.1.c0
    have r1 := HS2.out.2.2.1.c1
    have r2 := HS2.out.2.2.1.c2
    have f0 := HS2.out.2.2.1.fz 0
    have f1 := HS2.out.2.2.1.fz 1
    have f2 := HS2.out.2.2.1.fz 2
    clear hr ho hz b2 HRu HS1 HE1 q1 HS2 HP
    generalize hcd : (ckG gs).2 = cd at tz ⊢
    have HCD := (show Hid ((ckG gs).2 = cd) from hcd)
    clear hcd
    go_wp2_with fail
    have HQ := (show Hid _ from HT.out _ rfl)
    refine ret_vx2 (s := 2) (t := 3) (b := w.heap.size + 1) (x := .int .i64 cd) (by rfl) (by rfl) (by rfl) (by rfl) HQ.out.1 ?_
    exact ⟨⟨fun _ => by rw [HCD.out], fun q => absurd q HZ.out⟩, HQ.out.2⟩
end Go.Proofs.YtbipjdgholdhcabGreat.N

namespace Go.Proofs.YtbipjdgholdhcabGreat.N
open Go.RowKit Go.Maps
open Go.Proofs.YtbipjdgholdhcabGreat.T
/-- Marks, as they are handed on. -/
def mkL (f : Nat → Bool) : List Value := (List.range 200).map fun q => .bool (f q)
def mkA (f : Nat → Bool) : Array Value := (mkL f).toArray
theorem mkL_len (f : Nat → Bool) : (mkL f).length = 200 := by unfold mkL; rw [List.length_map, List.length_range]
theorem mkA_size (f : Nat → Bool) : (mkA f).size = 200 := by unfold mkA; rw [List.size_toArray, mkL_len]
theorem mkL_one (f : Nat → Bool) : ∀ v ∈ mkL f, v.oneCell' = true := fun v hv => by
  unfold mkL at hv
  obtain ⟨q, _, rfl⟩ := List.mem_map.1 hv
  rfl
theorem mkA_one (f : Nat → Bool) : (mkA f).all (·.oneCell') = true := all_oneCell_toArray (mkL_one f)
theorem mkL_get (f : Nat → Bool) {q : Nat} (h : q < 200) : (mkL f)[q]? = some (.bool (f q)) := by
  unfold mkL
  rw [List.getElem?_map, List.getElem?_range h]
  rfl
theorem mkA_get (f : Nat → Bool) {q : Nat} (h : q < 200) : (mkA f)[q]? = some (.bool (f q)) := by
  unfold mkA
  rw [List.getElem?_toArray, mkL_get f h]
theorem mkA_ext {f g : Nat → Bool} (h : ∀ q, q < 200 → f q = g q) : mkA f = mkA g := by
  unfold mkA mkL
  congr 1
  exact List.map_congr_left fun q hq => by rw [h q (List.mem_range.1 hq)]
theorem Tryz.size87 : (Tryz.prog.info? 87).map (·.size) = some 200 := by kernel_rfl
theorem Tryz.zeros87 : (Tryz.prog.info? 87).map (fun i => (i.zero, i.size)) = some (some (.agg (mkA fun _ => false)), 200) := by kernel_rfl
theorem zero_mk (w : World) : (zeroValue 87).run Tryz.prog w = .ok (.agg (mkA fun _ => false)) w := (zero_of_info Tryz.zeros87).1 w
/-- Marks in a box. -/
structure MX (W : World) (b : Nat) (f : Nat → Bool) : Prop where
  heap : W.heap[b]? = some (.cells (mkA f) 87 (0, 0))
theorem MX.lt {W : World} {b : Nat} {f : Nat → Bool} (h : MX W b f) : b < W.heap.size := (Array.getElem?_eq_some_iff.1 h.heap).1
theorem MX.same {W W' : World} {b : Nat} {f : Nat → Bool} (h : MX W b f) (hb : W'.heap[b]? = W.heap[b]?) : MX W' b f := ⟨hb.trans h.heap⟩
theorem MX.below {W W' : World} {b : Nat} {f : Nat → Bool} (h : MX W b f) (hb : Below W.heap.size W W') : MX W' b f := h.same (hb.block b h.lt)
theorem MX.cl {W : World} {b : Nat} {f : Nat → Bool} (h : MX W b f) {q : Nat} (hq : q < 200) : W.cell? ⟨b, q, none⟩ = some (.bool (f q)) := by rw [cell_of_row W b q _ 87 (0, 0) h.heap, mkA_get f hq]
theorem MX.fz {W : World} {b : Nat} {f : Nat → Bool} (h : MX W b f) (q : Nat) : W.frozen? ⟨b, q, none⟩ = false := frozen_of_row W b q _ 87 h.heap
theorem MX.at' {W : World} {b : Nat} {f : Nat → Bool} (h : MX W b f) : W.rangeAt b 0 (mkL f) := fun j v hv => by
  have hj := (List.getElem?_eq_some_iff.1 hv).1
  rw [mkL_len] at hj
  rw [mkL_get f hj] at hv
  cases hv
  rw [Nat.zero_add]
  exact h.cl hj
theorem MX.new (W : World) (f : Nat → Bool) : MX (W.alloc (.cells (mkA f) 87)) W.heap.size f := ⟨heap_alloc_new W _⟩
def upM (f : Nat → Bool) (r : Nat) (v : Bool) : Nat → Bool := fun q => if q = r then v else f q
theorem MX.set {W : World} {b r : Nat} {f : Nat → Bool} (h : MX W b f) (v : Bool) : MX (W.setCell ⟨b, r, none⟩ (.bool v)) b (upM f r v) := ⟨by
  rw [heap_setCell_same _ b r _ 87 _ h.heap]
  congr 2
  apply Array.ext_getElem?
  intro q
  rw [Array.getElem?_setIfInBounds]
  by_cases hq : q < 200
  · rw [mkA_get (upM f r v) hq]
    by_cases e : r = q
    · subst e
      rw [if_pos rfl, if_pos (by rw [mkA_size]; exact hq)]
      unfold upM
      rw [if_pos rfl]
    · rw [if_neg e, mkA_get f hq]
      unfold upM
      rw [if_neg (Ne.symm e)]
  · rw [Array.getElem?_eq_none (xs := mkA (upM f r v)) (by rw [mkA_size]; omega)]
    split
    · split
      · next h1 h2 => rw [mkA_size] at h2; omega
      · rfl
    · rw [Array.getElem?_eq_none (by rw [mkA_size]; omega)]⟩
theorem MX.all {W : World} {b : Nat} {f : Nat → Bool} (h : MX W b f) (g : Nat → Bool) : MX (W.setRow b (mkA g)) b g := ⟨setRow_heap W b _ _ 87 (0, 0) h.heap⟩
/-- A whole list of marks is written into its box. -/
theorem wpList_storeM {ops : Array Oper} {rest : List Oper} {op : Oper} {a : Act} {w : World} {Q : Exit → Act → World → Prop} (hgd : op.guard = none) (x y : Operand) (ho : op.op = .store 87 x y) (b : Nat) (f g : Nat → Bool) (hx : a.eval x = .pointer (some ⟨b, 0, none⟩)) (hy : a.eval y = .agg (mkA g)) (hm : MX w b f)
    (h : wpList Tryz.prog ops Q rest (a.put op.dst undef) (w.setRow b (mkA g))) : wpList Tryz.prog ops Q (op :: rest) a w := by
  refine wpList_plain hgd fun K hK => ?_
  have hr := run_storeVar_row (P := Tryz.prog) w b 87 87 (mkA f) (mkA g) hm.heap (by rw [mkA_size]; exact Tryz.size87) (by rw [mkA_size, mkA_size]) (mkA_one g)
  unfold Oper.wp execOp
  simp only [ho, hx, hy, Instr.storeAt, Instr.sureAddr, Sem.run_bind, Sem.run_pure, Result.andThen_ok, hr]
  exact hK _ _ h
/-- .. and read. -/
theorem wpList_loadM {ops : Array Oper} {rest : List Oper} {op : Oper} {a : Act} {w : World} {Q : Exit → Act → World → Prop} (hgd : op.guard = none) (x : Operand) (ho : op.op = .load 87 x) (b o : Nat) (f : Nat → Bool) (hx : a.eval x = .pointer (some ⟨b, o, none⟩)) (hm : w.rangeAt b o (mkL f))
    (h : wpList Tryz.prog ops Q rest (a.put op.dst (.agg (mkA f))) w) : wpList Tryz.prog ops Q (op :: rest) a w :=
  wpList_load_mid hgd 87 x ho b o hx (mkL f) (.array 200 4) hm Tryz.underlying87 rfl (by rw [mkL_len]; exact Tryz.size87) h
theorem ret_mx {s : Nat} {fn : Func} {R : Ending → World → Prop} {act : Act} {W : World} {b : Nat} {f : Nat → Bool} (hF : fn.results = #[.cell s 87]) (hd : act.defers = []) (h6 : act.tmps.getD s undef = .pointer (some ⟨b, 0, none⟩)) (hm : MX W b f) (hR : R (.returned (.agg (mkA f))) W) : bodyPost Tryz.prog fn R .ret act W := by
  refine bodyPost_ret (v := .agg (mkA f)) ?_ hd hR
  have hr := run_loadVar_row (P := Tryz.prog) W b 87 87 (mkA f) (0, 0) (.array 200 4) hm.heap Tryz.underlying87 rfl (by rw [mkA_size]; exact Tryz.size87)
  simp only [Array.getD_eq_getD_getElem?] at h6
  simp [results, hF, h6, asAddr, hr]
theorem index_mk (f : Nat → Bool) {k : Nat} (hk : k < 200) (W : World) : (Instr.index 87 (.agg (mkA f)) (.int .i64 (k : Int))).run Tryz.prog W = .ok (.bool (f k)) W := by
  have h := mkA_get f hk
  have hs := mkA_size f
  generalize mkA f = a at h hs
  have h0 : (0 : Int) ≤ (k : Int) := by omega
  have h1 : (k : Int) < 200 := by omega
  have h2 : ¬ 200 ≤ k := by omega
  simp [Instr.index, go_sem, h, h0, h2]
end Go.Proofs.YtbipjdgholdhcabGreat.N

namespace Go.Proofs.YtbipjdgholdhcabGreat.N
open Go.RowKit Go.Maps
open Go.Proofs.YtbipjdgholdhcabGreat.T
/-- A rule that is free: not told yet, all its heads told. -/
def frO (n : Nat) (c : Mx) (l : List Nat) (r : Nat) : Bool := !l.contains r && (hdl n c r).all fun q => l.contains q
/-- The first free rule. -/
def nxO (n : Nat) (c : Mx) (l : List Nat) : Option Nat := (List.range n).find? (frO n c l)
/-- The order after so many rounds. -/
def ordK (n : Nat) (c : Mx) : Nat → List Nat
  | 0 => []
  | k + 1 => match nxO n c (ordK n c k) with
    | none => ordK n c k
    | some r => ordK n c k ++ [r]
theorem nxO_some {n : Nat} {c : Mx} {l : List Nat} {r : Nat} (hr : r < n) (h : frO n c l r = true) (hb : ∀ q, q < r → frO n c l q = false) : nxO n c l = some r := by
  unfold nxO
  rw [List.find?_eq_some_iff_append]
  refine ⟨h, List.range r, (List.range (n - r - 1)).map (· + (r + 1)), ?_, fun q hq => by rw [hb q (List.mem_range.1 hq)]; rfl⟩
  apply List.ext_getElem?
  intro i
  by_cases hi : i < r
  · rw [List.getElem?_append_left (by rw [List.length_range]; exact hi), List.getElem?_range (by omega), List.getElem?_range hi]
  · rw [List.getElem?_append_right (by rw [List.length_range]; omega), List.length_range]
    by_cases he : i = r
    · rw [he, Nat.sub_self, List.getElem?_range hr]; rfl
    · obtain ⟨d, rfl⟩ : ∃ d, i = r + 1 + d := ⟨i - (r + 1), by omega⟩
      rw [show r + 1 + d - r = d + 1 from by omega, List.getElem?_cons_succ, List.getElem?_map]
      by_cases hd : r + 1 + d < n
      · rw [List.getElem?_range hd, List.getElem?_range (by omega)]
        show some _ = some _
        rw [show r + 1 + d = d + (r + 1) from by omega]
      · rw [List.getElem?_eq_none (by rw [List.length_range]; omega), List.getElem?_eq_none (by rw [List.length_range]; omega)]
        rfl
theorem nxO_none {n : Nat} {c : Mx} {l : List Nat} (h : ∀ q, q < n → frO n c l q = false) : nxO n c l = none := by
  unfold nxO
  rw [List.find?_eq_none]
  intro q hq
  rw [h q (List.mem_range.1 hq)]
  decide
theorem nxO_lt {n : Nat} {c : Mx} {l : List Nat} {r : Nat} (h : nxO n c l = some r) : r < n ∧ r ∉ l := by
  unfold nxO at h
  have h1 := List.mem_of_find?_eq_some h
  have h2 := List.find?_some h
  refine ⟨List.mem_range.1 h1, fun q => ?_⟩
  unfold frO at h2
  rw [Bool.and_eq_true] at h2
  have h3 := h2.1
  rw [List.contains_iff_mem.2 q] at h3
  cases h3
theorem ordK_none {n : Nat} {c : Mx} {k : Nat} (h : nxO n c (ordK n c k) = none) : ∀ d, ordK n c (k + d) = ordK n c k := by
  intro d
  induction d with
  | zero => rfl
  | succ d ih =>
    show (match nxO n c (ordK n c (k + d)) with | none => ordK n c (k + d) | some r => ordK n c (k + d) ++ [r]) = _
    rw [ih, h]
theorem ordK_some {n : Nat} {c : Mx} {k r : Nat} (h : nxO n c (ordK n c k) = some r) : ordK n c (k + 1) = ordK n c k ++ [r] := by
  show (match nxO n c (ordK n c k) with | none => ordK n c k | some r => ordK n c k ++ [r]) = _
  rw [h]
theorem ordK_nd {n : Nat} {c : Mx} : ∀ k, (ordK n c k).Nodup ∧ ∀ x ∈ ordK n c k, x < n := by
  intro k
  induction k with
  | zero => exact ⟨List.nodup_nil, fun x h => by cases h⟩
  | succ k ih =>
    cases h : nxO n c (ordK n c k) with
    | none => have e := ordK_none h 1; rw [e]; exact ih
    | some r =>
      rw [ordK_some h]
      obtain ⟨h1, h2⟩ := nxO_lt h
      refine ⟨List.nodup_append.2 ⟨ih.1, List.pairwise_singleton _ r, fun a ha b hb e => h2 ?_⟩, fun x hx => ?_⟩
      · rw [List.mem_singleton] at hb
        rw [← hb, ← e]; exact ha
      · rcases List.mem_append.1 hx with h | h
        · exact ih.2 x h
        · rw [List.mem_singleton.1 h]; exact h1
theorem ordK_few {n : Nat} {c : Mx} (k : Nat) : (ordK n c k).length ≤ n := few_below n _ (ordK_nd k).1 (ordK_nd k).2
/-- A list that the rounds come to, with no rule free behind it, is the whole order. -/
theorem ordK_fin {n : Nat} {c : Mx} {k : Nat} (hl : (ordK n c k).length = k) (h : nxO n c (ordK n c k) = none) : ordK n c n = ordK n c k := by
  have hk := ordK_few (n := n) (c := c) k
  rw [hl] at hk
  have e := ordK_none h (n - k)
  rwa [show k + (n - k) = n from by omega] at e
end Go.Proofs.YtbipjdgholdhcabGreat.N
