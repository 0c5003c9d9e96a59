/- DERIVED. Plain mathematics and walks, laid together (1). -/
import Derived.WalkKit
import Derived.ProofKit
import Derived.BigQuiet
import Derived.Test.YtbnihflihelimaaGreatRows
import Derived.Deep.SlicePairs
import Derived.Lib.SmallJoins
import Derived.Laws.IdiomArrays
import Derived.SizedLaws
import Derived.OpenShut
import Derived.ShutString
import Derived.ChangeOld
namespace Go.Proofs.YtbnihflihelimaaGreat.T
open Go.RowKit
def dgB (c : Int) : Bool := decide (48 ≤ c) && decide (c ≤ 57)
def ltB (c : Int) : Bool := (decide (97 ≤ c) && decide (c ≤ 122)) || (decide (65 ≤ c) && decide (c ≤ 90))
def nmC (c : Int) : Bool := dgB c || ltB c || c == 95

def NmP (s : ByteArray) : Prop := 0 < s.size ∧ s.size ≤ 32 ∧ (∀ h : 0 < s.size, dgB (s[0].toNat : Int) = false) ∧ ∀ (j : Nat) (h : j < s.size), nmC (s[j].toNat : Int) = true
def decNm (s:ByteArray):Decidable (NmP s):=by unfold NmP;exact inferInstance
def nmB (s:ByteArray):Bool:=@decide (NmP s) (decNm s)
theorem nmB_t {s : ByteArray} (h : NmP s) : nmB s = true := by unfold nmB; exact @decide_eq_true _ (decNm _) h
theorem nmB_f {s : ByteArray} (h : ¬ NmP s) : nmB s = false := by unfold nmB; exact @decide_eq_false _ (decNm _) h

def tmGo (s : ByteArray) : Nat → Nat → Bool
  | 0, _ => true
  | m + 1, i => if h : i < s.size then (if (s[i].toNat : Int) = 37 then (if h2 : i + 1 < s.size then (if (s[i + 1].toNat : Int) = 37 ∨ dgB (s[i + 1].toNat : Int) = true then tmGo s m (i + 2) else false) else false) else tmGo s m (i + 1)) else true
def tmB (s : ByteArray) : Bool := if s.size ≤ 255 then tmGo s s.size 0 else false

/-- A node of a pattern. -/
structure Nd where
  op : Int
  nn : Int
  tx : ByteArray
  s0 : Int
  s1 : Int
  s2 : Int
  s3 : Int

def ar (op : Int) : Int := if op < 1 ∨ 23 < op then -1 else if op ≤ 6 ∨ op = 17 then 0 else if op = 7 ∨ op = 8 then 2 else 1
theorem ar_hi (op : Int) : ar op ≤ 2 := by
  unfold ar; split
  · omega
  · split
    · omega
    · split <;> omega

def txF (op : Int) (tx : ByteArray) : Bool := if op = 4 then decide (1 ≤ tx.size ∧ tx.size ≤ 255) else if op = 6 then nmB tx else if op = 19 then decide (tx.size = 0) || nmB tx else if op = 22 then tmB tx else decide (tx.size = 0)
def nuF (op nn : Int) : Bool := if op = 14 ∨ op = 15 ∨ op = 16 ∨ op = 23 then decide (0 ≤ nn ∧ nn ≤ 50) else decide (nn = 0)
def seF (op a b c d : Int) : Bool := if op = 5 then true else decide (a = 0 ∧ b = 0 ∧ c = 0 ∧ d = 0)
def fdF (n : Nd) : Bool := txF n.op n.tx && nuF n.op n.nn && seF n.op n.s0 n.s1 n.s2 n.s3
def alE (n : Nd) : Int := if ar n.op < 0 then 40 else if fdF n then 0 else 41

abbrev ndG (n : Nd) : Value := .agg #[.int .i64 n.op, .int .i64 n.nn, .string n.tx, .int .u64 n.s0, .int .u64 n.s1, .int .u64 n.s2, .int .u64 n.s3]
def ndV (n : Nd) : List Value := [.int .i64 n.op, .int .i64 n.nn, .string n.tx, .int .u64 n.s0, .int .u64 n.s1, .int .u64 n.s2, .int .u64 n.s3]
def ndc (l : List Nd) : List Value := l.flatMap ndV
theorem ndc_len (l : List Nd) : (ndc l).length = l.length * 7 := by
  induction l with
  | nil => rfl
  | cons a l ih => show (ndV a ++ ndc l).length = _; rw [List.length_append, ih, List.length_cons]; show 7 + _ = _; omega

theorem emp_t {s : ByteArray} (h : s.size = 0) : s.toList.isEmpty = true := by
  obtain ⟨d⟩ := s
  have h2 : d.size = 0 := h
  rw [ByteArray.toList_eq, Array.eq_empty_of_size_eq_zero h2]; rfl
theorem emp_f {s : ByteArray} (h : ¬ s.size = 0) : s.toList.isEmpty = false := by
  obtain ⟨d⟩ := s
  have h2 : ¬ d.toList.length = 0 := h
  rw [ByteArray.toList_eq]
  show d.toList.isEmpty = false
  cases hd : d.toList with
  | nil => rw [hd] at h2; exact absurd rfl h2
  | cons a b => rfl
theorem ret_bool {a b : Bool} (h : a = b) : Ending.returned (.bool a) = .returned (.bool b) := by rw [h]
end Go.Proofs.YtbnihflihelimaaGreat.T

namespace Go.Proofs.YtbnihflihelimaaGreat.T
/-- A part: its first and its last node, its height. -/
abbrev Pt := Nat × Nat × Nat

def opAt (L : List Nd) (k : Nat) : Int := match L[k]? with
  | some n => n.op
  | none => 0
def arN (op : Int) : Nat := (ar op).toNat
/-- The part that ends with node k, by the parts that are free ahead of it (the last one first). -/
def mk (L : List Nd) (k : Nat) (op : Int) (st : List Pt) : Pt :=
  if arN op = 0 then (k, k, 1) else if arN op = 1 then (match st with
    | x :: _ => (x.1, k, max 1 (x.2.2 + 1))
    | [] => (k, k, 1)) else (match st with
    | y :: x :: _ => (x.1, k, max (max 1 (if opAt L x.2.1 = op then x.2.2 else x.2.2 + 1)) (y.2.2 + 1))
    | _ => (k, k, 1))
def run (L : List Nd) : Nat → List Pt
  | 0 => []
  | k + 1 => mk L k (opAt L k) (run L k) :: (run L k).drop (arN (opAt L k))
def pt (L : List Nd) (k : Nat) : Pt := mk L k (opAt L k) (run L k)
theorem run_succ (L : List Nd) (k : Nat) : run L (k + 1) = pt L k :: (run L k).drop (arN (opAt L k)) := rfl

/-- What is wrong with node k; 0: nothing. -/
def er (L : List Nd) (k : Nat) : Int := match L[k]? with
  | none => 0
  | some n => if alE n ≠ 0 then alE n else if (run L k).length < arN n.op then 42 else if 60 < (pt L k).2.2 then 4 else 0
def ckGo (L : List Nd) : Nat → Nat → Nat × Int
  | 0, _ => if (run L L.length).length = 1 then (0, 0) else (L.length, 42)
  | m + 1, k => if er L k ≠ 0 then (k, er L k) else ckGo L m (k + 1)
def ck (L : List Nd) : Nat × Int := if 2048 < L.length then (0, 2) else ckGo L L.length 0

theorem ckGo_from (L : List Nd) : ∀ (k m : Nat), k + m = L.length → (∀ j, j < k → er L j = 0) → ckGo L L.length 0 = ckGo L m k := by
  intro k
  induction k with
  | zero => intro m hm _; rw [← hm, Nat.zero_add]
  | succ k ih =>
    intro m hm h
    rw [ih (m + 1) (by omega) (fun j hj => h j (by omega)), ckGo, if_neg (by rw [h k (by omega)]; simp)]
theorem ck_bad {L : List Nd} {k : Nat} (hl : ¬ 2048 < L.length) (hk : k < L.length) (h : ∀ j, j < k → er L j = 0) (he : er L k ≠ 0) : ck L = (k, er L k) := by
  rw [ck, if_neg hl, ckGo_from L k (L.length - k) (by omega) h, show L.length - k = (L.length - k - 1) + 1 from by omega, ckGo, if_pos he]
theorem ck_end {L : List Nd} (hl : ¬ 2048 < L.length) (h : ∀ j, j < L.length → er L j = 0) : ck L = if (run L L.length).length = 1 then (0, 0) else (L.length, 42) := by
  rw [ck, if_neg hl, ckGo_from L L.length 0 (by omega) h, ckGo]
theorem ck_long {L : List Nd} (hl : 2048 < L.length) : ck L = (0, 2) := by rw [ck, if_pos hl]
/-- Right. -/
structure Rt (L : List Nd) : Prop where
  len : ¬ 2048 < L.length
  each : ∀ j, j < L.length → er L j = 0
  one : (run L L.length).length = 1
theorem Rt.ck {L : List Nd} (h : Rt L) : ck L = (0, 0) := by rw [ck_end h.len h.each, if_pos h.one]
theorem ckGo_ok (L : List Nd) : ∀ (m k : Nat), k + m = L.length → (ckGo L m k).2 = 0 → (∀ j, k ≤ j → j < L.length → er L j = 0) ∧ (run L L.length).length = 1 := by
  intro m
  induction m with
  | zero =>
    intro k hk h
    refine ⟨fun j h1 h2 => by omega, ?_⟩
    rw [ckGo] at h
    split at h
    · assumption
    · cases h
  | succ m ih =>
    intro k hk h
    rw [ckGo] at h
    split at h
    · next he => exact absurd h he
    · next he =>
      obtain ⟨h1, h2⟩ := ih (k + 1) (by omega) h
      refine ⟨fun j a b => ?_, h2⟩
      by_cases hj : j = k
      · subst hj
        exact Classical.byContradiction he
      · exact h1 j (by omega) b
theorem rt_of {L : List Nd} (h : (ck L).2 = 0) : Rt L := by
  unfold ck at h
  split at h
  · cases h
  · next hl =>
    obtain ⟨h1, h2⟩ := ckGo_ok L L.length 0 (by omega) h
    exact ⟨hl, fun j hj => h1 j (by omega) hj, h2⟩

theorem er_of {L : List Nd} {k : Nat} {n : Nd} (h : L[k]? = some n) : er L k = if alE n ≠ 0 then alE n else if (run L k).length < arN n.op then 42 else if 60 < (pt L k).2.2 then 4 else 0 := by
  unfold er; rw [h]
theorem op_of {L : List Nd} {k : Nat} {n : Nd} (h : L[k]? = some n) : opAt L k = n.op := by unfold opAt; rw [h]
theorem alE_ar {n : Nd} (h : alE n = 0) : 0 ≤ ar n.op := by
  unfold alE at h
  split at h
  · cases h
  · omega

/-- What lies free ahead of node k lies one behind the other. -/
def Chn (L : List Nd) : Nat → List Pt → Prop
  | at', [] => at' = 0
  | at', x :: r => x.2.1 + 1 = at' ∧ x = pt L x.2.1 ∧ x.1 ≤ x.2.1 ∧ Chn L x.1 r
theorem mk_last (L : List Nd) (k : Nat) (op : Int) (st : List Pt) : (mk L k op st).2.1 = k := by
  unfold mk
  split
  · rfl
  · split
    · split <;> rfl
    · split <;> rfl
theorem arN_le (op : Int) : arN op ≤ 2 := by unfold arN; have := ar_hi op; omega
theorem chn_run (L : List Nd) : ∀ k, k ≤ L.length → (∀ j, j < k → er L j = 0) → Chn L k (run L k) := by
  intro k
  induction k with
  | zero => intro _ _; exact rfl
  | succ k ih =>
    intro hk h
    have c := ih (by omega) (fun j hj => h j (by omega))
    have hn : L[k]? = some L[k] := List.getElem?_eq_getElem (by omega)
    have he := h k (by omega)
    rw [er_of hn] at he
    have ha : alE L[k] = 0 := by
      apply Classical.byContradiction
      intro q
      rw [if_pos q] at he
      exact q he
    rw [if_neg (by simp [ha])] at he
    have hl : ¬ (run L k).length < arN L[k].op := by
      intro q
      rw [if_pos q] at he
      cases he
    have hop := op_of hn
    rw [run_succ]
    have hlast : (pt L k).2.1 = k := mk_last _ _ _ _
    refine ⟨by rw [hlast], by rw [hlast], ?_, ?_⟩
    · rw [hlast]
      unfold pt mk
      rw [hop]
      split
      · exact Nat.le_refl _
      · split
        · cases hr : run L k with
          | nil => exact Nat.le_refl _
          | cons x r => rw [hr] at c; have := c.1; have := c.2.2.1; show x.1 ≤ k; omega
        · cases hr : run L k with
          | nil => exact Nat.le_refl _
          | cons y r =>
            rw [hr] at c
            cases hr2 : r with
            | nil => exact Nat.le_refl _
            | cons x r2 =>
              rw [hr2] at c
              have h1 := c.1; have h2 := c.2.2.1; have h3 := c.2.2.2.1; have h4 := c.2.2.2.2.2.1
              show x.1 ≤ k
              omega
    · have h2 := arN_le L[k].op
      unfold pt mk
      rw [hop]
      by_cases a0 : arN L[k].op = 0
      · rw [if_pos a0, a0]
        exact c
      · rw [if_neg a0]
        by_cases a1 : arN L[k].op = 1
        · rw [if_pos a1, a1]
          rw [a1] at hl
          cases hr : run L k with
          | nil => rw [hr] at hl; exact absurd (by simp) hl
          | cons x r => rw [hr] at c; exact c.2.2.2
        · rw [if_neg a1, show arN L[k].op = 2 from by omega]
          rw [show arN L[k].op = 2 from by omega] at hl
          cases hr : run L k with
          | nil => rw [hr] at hl; exact absurd (by simp) hl
          | cons y r =>
            rw [hr] at c hl
            cases hr2 : r with
            | nil => rw [hr2] at hl; exact absurd (by simp) hl
            | cons x r2 => rw [hr2] at c; exact c.2.2.2.2.2.2
end Go.Proofs.YtbnihflihelimaaGreat.T

namespace Go.Proofs.YtbnihflihelimaaGreat.T
open Go.RowKit
set_option maxRecDepth 100000 in
set_option maxHeartbeats 1000000 in
theorem isDigit_any (c : Int) (w : World) : Calls Tryz.prog 119 #[.int .u8 c] w fun e w' => e = .returned (.bool (dgB c)) ∧ w' = w := by
  by_cases h : 48 ≤ c
  · have HE : Hid (dgB c = decide (c ≤ 57)) := (by show dgB c = _; unfold dgB; rw [decide_eq_true h]; rfl)
    go_enter Tryz.func119, Tryz.ntmps119
    go_wp2
    go_ret
    exact ⟨by rw [HE.out]; rfl, rfl⟩
  · have HE : Hid (dgB c = false) := (by show dgB c = _; unfold dgB; rw [decide_eq_false h]; rfl)
    go_enter Tryz.func119, Tryz.ntmps119
    go_wp2
    go_ret
    exact ⟨by rw [HE.out]; rfl, rfl⟩

set_option maxRecDepth 100000 in
set_option maxHeartbeats 1000000 in
theorem isLetter_any (c : Int) (w : World) : Calls Tryz.prog 120 #[.int .u8 c] w fun e w' => e = .returned (.bool (ltB c)) ∧ w' = w := by
  have HE : Hid (ltB c = ((decide (97 ≤ c) && decide (c ≤ 122)) || (decide (65 ≤ c) && decide (c ≤ 90)))) := rfl
  by_cases h : 97 ≤ c <;> by_cases h1 : c ≤ 122 <;> by_cases h2 : 65 ≤ c <;> by_cases h3 : c ≤ 90
  all_goals
    go_enter Tryz.func120, Tryz.ntmps120
    go_wp2
    go_ret
    refine ⟨ret_bool ?_, rfl⟩
    rw [HE.out]
    simp <;> omega

set_option maxRecDepth 100000 in
set_option maxHeartbeats 2000000 in
theorem arity_any (op : Int) (w : World) : Calls Tryz.prog 43 #[.int .i64 op] w fun e w' => e = .returned (.int .i64 (ar op)) ∧ w' = w := by
  by_cases h1 : op < 1
  · have HE : Hid (ar op = -1) := (by show ar op = _; unfold ar; rw [if_pos (.inl h1)])
    go_enter Tryz.func43, Tryz.ntmps43
    go_wp2
    go_ret
    exact ⟨by rw [HE.out]; rfl, rfl⟩
  by_cases h2 : 23 < op
  · have HE : Hid (ar op = -1) := (by show ar op = _; unfold ar; rw [if_pos (.inr h2)])
    go_enter Tryz.func43, Tryz.ntmps43
    go_wp2
    go_ret
    exact ⟨by rw [HE.out]; rfl, rfl⟩
  by_cases h3 : op ≤ 6
  · have HE : Hid (ar op = 0) := (by show ar op = _; unfold ar; rw [if_neg (by omega), if_pos (.inl h3)])
    go_enter Tryz.func43, Tryz.ntmps43
    go_wp2
    go_ret
    exact ⟨by rw [HE.out]; rfl, rfl⟩
  by_cases h4 : op = 17
  · have HE : Hid (ar op = 0) := (by show ar op = _; unfold ar; rw [if_neg (by omega), if_pos (.inr h4)])
    have e4 : (op == 17) = true := beq_iff_eq.2 h4
    clear h4
    go_enter Tryz.func43, Tryz.ntmps43
    go_wp2
    go_ret
    exact ⟨by rw [HE.out]; rfl, rfl⟩
  have e4 : (op == 17) = false := beq_eq_false_iff_ne.2 h4
  by_cases h5 : op = 7
  · have HE : Hid (ar op = 2) := (by show ar op = _; unfold ar; rw [if_neg (by omega), if_neg (by omega), if_pos (.inl h5)])
    have e5 : (op == 7) = true := beq_iff_eq.2 h5
    clear h5 h4
    go_enter Tryz.func43, Tryz.ntmps43
    go_wp2
    go_ret
    exact ⟨by rw [HE.out]; rfl, rfl⟩
  have e5 : (op == 7) = false := beq_eq_false_iff_ne.2 h5
  by_cases h6 : op = 8
  · have HE : Hid (ar op = 2) := (by show ar op = _; unfold ar; rw [if_neg (by omega), if_neg (by omega), if_pos (.inr h6)])
    have e6 : (op == 8) = true := beq_iff_eq.2 h6
    clear h6 h5 h4
    go_enter Tryz.func43, Tryz.ntmps43
    go_wp2
    go_ret
    exact ⟨by rw [HE.out]; rfl, rfl⟩
  have e6 : (op == 8) = false := beq_eq_false_iff_ne.2 h6
  have HE : Hid (ar op = 1) := (by show ar op = _; unfold ar; rw [if_neg (by omega), if_neg (by omega), if_neg (by omega)])
  clear h6 h5 h4
  go_enter Tryz.func43, Tryz.ntmps43
  go_wp2
  go_ret
  exact ⟨by rw [HE.out]; rfl, rfl⟩
end Go.Proofs.YtbnihflihelimaaGreat.T

namespace Go.Proofs.YtbnihflihelimaaGreat.T
open Go.RowKit
set_option maxRecDepth 100000 in
set_option maxHeartbeats 4000000 in
theorem isName_any (s : ByteArray) (hs : s.size ≤ 140737488355328) (w : World) : Calls Tryz.prog 110 #[.string s] w fun e w' => e = .returned (.bool (nmB s)) ∧ w' = w := by
  have HD : Hid (∀ c w, Calls Tryz.prog 119 #[.int .u8 c] w fun e w' => e = .returned (.bool (dgB c)) ∧ w' = w) := fun c w => isDigit_any c w
  have HL : Hid (∀ c w, Calls Tryz.prog 120 #[.int .u8 c] w fun e w' => e = .returned (.bool (ltB c)) ∧ w' = w) := fun c w => isLetter_any c w
  by_cases h0 : s.size = 0
  · have HE : Hid (nmB s = false) := nmB_f (fun h => by have := h.1; omega)
    have q0 := emp_t h0
    clear h0 HD HL hs
    go_enter Tryz.func110, Tryz.ntmps110
    go_wp2_with fail
    go_ret
    exact ⟨by rw [HE.out]; rfl, rfl⟩
  have q0 := emp_f h0
  by_cases h1 : 32 < s.size
  · have HE : Hid (nmB s = false) := nmB_f (fun h => by have := h.2.1; omega)
    have z1 : (32 : Int) < (s.size : Int) := by omega
    clear h0 HD HL hs
    go_enter Tryz.func110, Tryz.ntmps110
    go_wp2_with fail
    go_ret
    exact ⟨by rw [HE.out]; rfl, rfl⟩
  have z1 : ¬ (32 : Int) < (s.size : Int) := by omega
  have hp : 0 < s.size := by omega
  cases hd : dgB (s[0].toNat : Int) with
  | true =>
    have HE : Hid (nmB s = false) := nmB_f (fun h => by have := h.2.2.1 hp; rw [hd] at this; cases this)
    go_enter Tryz.func110, Tryz.ntmps110
    go_wp2_with fail
    refine (HD.out _ _).mono ?_
    rintro e w ⟨rfl, rfl⟩
    rw [hd]
    clear HD HL hd
    go_wp2_with fail
    go_ret
    exact ⟨by rw [HE.out]; rfl, rfl⟩
  | false =>
    have HN : Hid ((∀ (j : Nat) (h : j < s.size), nmC (s[j].toNat : Int) = true) → nmB s = true) := fun h => nmB_t ⟨hp, by omega, fun _ => hd, h⟩
    have HM : Hid (∀ (j : Nat) (h : j < s.size), nmC (s[j].toNat : Int) = false → nmB s = false) := fun j h e => nmB_f (fun q => by have := q.2.2.2 j h; rw [e] at this; cases this)
    go_enter Tryz.func110, Tryz.ntmps110
    go_wp2_with fail
    refine (HD.out _ _).mono ?_
    rintro e w ⟨rfl, rfl⟩
    rw [hd]
    clear hd
    go_wp2_with fail
    go_loopw [18] (fun t wr => ∃ k : Nat, k ≤ s.size ∧ t = .int .i64 k ∧ wr = w ∧ Hid (∀ (j : Nat) (h : j < s.size), j < k → nmC (s[j].toNat : Int) = true)) (fun t _ => s.size - (intOf t).toNat)
    case atStart => exact ⟨0, by omega, by go_num, rfl, fun j h q => by omega⟩
    case round =>
      obtain ⟨k, hk, rfl, rfl, HI⟩ := hrel
      by_cases hlt : k < s.size
      · have z3 : (0 : Int) ≤ (k : Int) := by omega
        have z4 : (k : Int) < (s.size : Int) := by omega
        have HC : Hid (nmC (s[k].toNat : Int) = (dgB (s[k].toNat : Int) || ltB (s[k].toNat : Int) || (s[k].toNat : Int) == 95)) := rfl
        cases hd2 : dgB (s[k].toNat : Int) with
        | true =>
          have HI2 : Hid (∀ (j : Nat) (h : j < s.size), j < k + 1 → nmC (s[j].toNat : Int) = true) := fun j h q => by
            by_cases hj : j < k
            · exact HI.out j h hj
            · obtain rfl : j = k := by omega
              rw [HC.out, hd2]; rfl
          clear HI HC HN HM
          go_wp2_with fail
          refine (HD.out _ _).mono ?_
          rintro e w ⟨rfl, rfl⟩
          rw [hd2]
          clear hd2 HD HL
          go_wp2_with fail
          go_roundw
          case rel => exact ⟨k + 1, by omega, by go_num, trivial, HI2⟩
          case measure => simp [intOf]; omega
        | false =>
          cases hl2 : ltB (s[k].toNat : Int) with
          | true =>
            have HI2 : Hid (∀ (j : Nat) (h : j < s.size), j < k + 1 → nmC (s[j].toNat : Int) = true) := fun j h q => by
              by_cases hj : j < k
              · exact HI.out j h hj
              · obtain rfl : j = k := by omega
                rw [HC.out, hd2, hl2]; rfl
            clear HI HC HN HM
            go_wp2_with fail
            refine (HD.out _ _).mono ?_
            rintro e w ⟨rfl, rfl⟩
            rw [hd2]
            clear hd2 HD
            go_wp2_with fail
            refine (HL.out _ _).mono ?_
            rintro e w ⟨rfl, rfl⟩
            rw [hl2]
            clear hl2 HL
            go_wp2_with fail
            go_roundw
            case rel => exact ⟨k + 1, by omega, by go_num, trivial, HI2⟩
            case measure => simp [intOf]; omega
          | false =>
            by_cases h95 : (s[k].toNat : Int) = 95
            · have e95 : ((s[k].toNat : Int) == 95) = true := beq_iff_eq.2 h95
              have HI2 : Hid (∀ (j : Nat) (h : j < s.size), j < k + 1 → nmC (s[j].toNat : Int) = true) := fun j h q => by
                by_cases hj : j < k
                · exact HI.out j h hj
                · obtain rfl : j = k := by omega
                  rw [HC.out, hd2, hl2, e95]; rfl
              clear HI HC HN HM h95
              go_wp2_with fail
              refine (HD.out _ _).mono ?_
              rintro e w ⟨rfl, rfl⟩
              rw [hd2]
              clear hd2 HD
              go_wp2_with fail
              refine (HL.out _ _).mono ?_
              rintro e w ⟨rfl, rfl⟩
              rw [hl2]
              clear hl2 HL
              go_wp2_with fail
              go_roundw
              case rel => exact ⟨k + 1, by omega, by go_num, trivial, HI2⟩
              case measure => simp [intOf]; omega
            · have e95 : ((s[k].toNat : Int) == 95) = false := beq_eq_false_iff_ne.2 h95
              have HE : Hid (nmB s = false) := HM.out k hlt (by rw [HC.out, hd2, hl2, e95]; rfl)
              clear HI HC HN HM h95
              go_wp2_with fail
              refine (HD.out _ _).mono ?_
              rintro e w ⟨rfl, rfl⟩
              rw [hd2]
              clear hd2 HD
              go_wp2_with fail
              refine (HL.out _ _).mono ?_
              rintro e w ⟨rfl, rfl⟩
              rw [hl2]
              clear hl2 HL
              go_wp2_with fail
              go_ret
              exact ⟨by rw [HE.out]; rfl, rfl⟩
      · obtain rfl : k = s.size := by omega
        have HE : Hid (nmB s = true) := HN.out (fun j h => HI.out j h h)
        clear HD HL HN HM HI
        go_wp2_with fail
        go_ret
        exact ⟨by rw [HE.out]; rfl, rfl⟩

theorem tm_end (s : ByteArray) (m i : Nat) (h : ¬ i < s.size) : tmGo s m i = true := by
  cases m with
  | zero => rfl
  | succ m => rw [tmGo, dif_neg h]
theorem tm_plain {s : ByteArray} {m i : Nat} (h : i < s.size) (q : s.size ≤ i + m) (e : ¬ (s[i].toNat : Int) = 37) : ∃ m2, s.size ≤ i + 1 + m2 ∧ tmGo s m i = tmGo s m2 (i + 1) := by
  cases m with
  | zero => omega
  | succ m => exact ⟨m, by omega, by rw [tmGo, dif_pos h, if_neg e]⟩
theorem tm_two {s : ByteArray} {m i : Nat} (h : i < s.size) (q : s.size ≤ i + m) (e : (s[i].toNat : Int) = 37) (h2 : i + 1 < s.size) (d : (s[i + 1].toNat : Int) = 37 ∨ dgB (s[i + 1].toNat : Int) = true) : ∃ m2, s.size ≤ i + 2 + m2 ∧ tmGo s m i = tmGo s m2 (i + 2) := by
  cases m with
  | zero => omega
  | succ m => exact ⟨m, by omega, by rw [tmGo, dif_pos h, if_pos e, dif_pos h2, if_pos d]⟩
theorem tm_cut {s : ByteArray} {m i : Nat} (h : i < s.size) (q : s.size ≤ i + m) (e : (s[i].toNat : Int) = 37) (h2 : ¬ i + 1 < s.size) : tmGo s m i = false := by
  cases m with
  | zero => omega
  | succ m => rw [tmGo, dif_pos h, if_pos e, dif_neg h2]
theorem tm_bad {s : ByteArray} {m i : Nat} (h : i < s.size) (q : s.size ≤ i + m) (e : (s[i].toNat : Int) = 37) (h2 : i + 1 < s.size) (d : ¬ (s[i + 1].toNat : Int) = 37) (d2 : dgB (s[i + 1].toNat : Int) = false) : tmGo s m i = false := by
  cases m with
  | zero => omega
  | succ m => rw [tmGo, dif_pos h, if_pos e, dif_pos h2, if_neg (by rw [d2]; simp only [Bool.false_eq_true, or_false]; exact d)]

set_option maxRecDepth 100000 in
set_option maxHeartbeats 4000000 in
theorem isTemplate_any (s : ByteArray) (hs : s.size ≤ 140737488355328) (w : World) : Calls Tryz.prog 111 #[.string s] w fun e w' => e = .returned (.bool (tmB s)) ∧ w' = w := by
  have HD : Hid (∀ c w, Calls Tryz.prog 119 #[.int .u8 c] w fun e w' => e = .returned (.bool (dgB c)) ∧ w' = w) := fun c w => isDigit_any c w
  by_cases h1 : 255 < s.size
  · have HE : Hid (tmB s = false) := (by show tmB s = _; unfold tmB; rw [if_neg (by omega)])
    have z1 : (255 : Int) < (s.size : Int) := by omega
    clear HD hs
    go_enter Tryz.func111, Tryz.ntmps111
    go_wp2_with fail
    go_ret
    exact ⟨by rw [HE.out]; rfl, rfl⟩
  have z1 : ¬ (255 : Int) < (s.size : Int) := by omega
  have HB : Hid (tmB s = tmGo s s.size 0) := (by show tmB s = _; unfold tmB; rw [if_pos (by omega)])
  go_enter Tryz.func111, Tryz.ntmps111
  go_wp2_with fail
  go_loopw [3] (fun t wr => ∃ k : Nat, k ≤ s.size ∧ t = .int .i64 k ∧ wr = w ∧ Hid (∃ m, s.size ≤ k + m ∧ tmB s = tmGo s m k)) (fun t _ => s.size - (intOf t).toNat)
  case atStart => exact ⟨0, by omega, by go_num, rfl, ⟨s.size, by omega, HB.out⟩⟩
  case round =>
    obtain ⟨k, hk, rfl, rfl, HI⟩ := hrel
    clear HB
    obtain ⟨m, hm, HJ⟩ := HI.out
    have HJ := (show Hid _ from HJ)
    clear HI
    by_cases hlt : k < s.size
    · have z3 : (0 : Int) ≤ (k : Int) := by omega
      have z4 : (k : Int) < (s.size : Int) := by omega
      by_cases h37 : (s[k].toNat : Int) = 37
      · have e37 : ((s[k].toNat : Int) == 37) = true := beq_iff_eq.2 h37
        by_cases h2 : k + 1 < s.size
        · have z5 : ((k : Int) + 1 == (s.size : Int)) = false := beq_eq_false_iff_ne.2 (by omega)
          have z6 : (k : Int) + 1 < (s.size : Int) := by omega
          by_cases g37 : (s[k + 1].toNat : Int) = 37
          · have f37 : ((s[k + 1].toNat : Int) != 37) = false := by rw [bne, beq_iff_eq.2 g37]; rfl
            have HK : Hid (∃ m2, s.size ≤ k + 2 + m2 ∧ tmB s = tmGo s m2 (k + 2)) := by
              obtain ⟨m2, u, v⟩ := tm_two hlt hm h37 h2 (.inl g37)
              exact ⟨m2, u, HJ.out.trans v⟩
            clear HJ h37 g37 HD
            go_wp2_with fail
            go_roundw
            case rel => exact ⟨k + 2, by omega, by go_num, trivial, HK⟩
            case measure => simp [intOf]; omega
          · have f37 : ((s[k + 1].toNat : Int) != 37) = true := by rw [bne, beq_eq_false_iff_ne.2 g37]; rfl
            cases hd : dgB (s[k + 1].toNat : Int) with
            | true =>
              have HK : Hid (∃ m2, s.size ≤ k + 2 + m2 ∧ tmB s = tmGo s m2 (k + 2)) := by
                obtain ⟨m2, u, v⟩ := tm_two hlt hm h37 h2 (.inr hd)
                exact ⟨m2, u, HJ.out.trans v⟩
              clear HJ h37 g37
              go_wp2_with fail
              refine (HD.out _ _).mono ?_
              rintro e w ⟨rfl, rfl⟩
              rw [hd]
              clear hd HD
              go_wp2_with fail
              go_roundw
              case rel => exact ⟨k + 2, by omega, by go_num, trivial, HK⟩
              case measure => simp [intOf]; omega
            | false =>
              have HE : Hid (tmB s = false) := HJ.out.trans (tm_bad hlt hm h37 h2 g37 hd)
              clear HJ h37 g37
              go_wp2_with fail
              refine (HD.out _ _).mono ?_
              rintro e w ⟨rfl, rfl⟩
              rw [hd]
              clear hd HD
              go_wp2_with fail
              go_ret
              exact ⟨by rw [HE.out]; rfl, rfl⟩
        · have z5 : ((k : Int) + 1 == (s.size : Int)) = true := beq_iff_eq.2 (by omega)
          have HE : Hid (tmB s = false) := HJ.out.trans (tm_cut hlt hm h37 h2)
          clear HJ h37 HD
          go_wp2_with fail
          go_ret
          exact ⟨by rw [HE.out]; rfl, rfl⟩
      · have e37 : ((s[k].toNat : Int) == 37) = false := beq_eq_false_iff_ne.2 h37
        have HK : Hid (∃ m2, s.size ≤ k + 1 + m2 ∧ tmB s = tmGo s m2 (k + 1)) := by
          obtain ⟨m2, u, v⟩ := tm_plain hlt hm h37
          exact ⟨m2, u, HJ.out.trans v⟩
        clear HJ h37 HD
        go_wp2_with fail
        go_roundw
        case rel => exact ⟨k + 1, by omega, by go_num, trivial, HK⟩
        case measure => simp [intOf]; omega
    · obtain rfl : k = s.size := by omega
      have HE : Hid (tmB s = true) := HJ.out.trans (tm_end s m _ (by omega))
      clear HD HJ
      go_wp2_with fail
      go_ret
      exact ⟨by rw [HE.out]; rfl, rfl⟩
end Go.Proofs.YtbnihflihelimaaGreat.T

namespace Go.Proofs.YtbnihflihelimaaGreat.T
open Go.RowKit
def seE (a b c d a' b' c' d' : Int) : Bool := (a == a') && ((b == b') && ((c == c') && (d == d')))
theorem tx_ext {a b : ByteArray} (h : a.toList = b.toList) : a = b := by
  rw [ByteArray.toList_eq, ByteArray.toList_eq] at h
  obtain ⟨x⟩ := a
  obtain ⟨y⟩ := b
  have h2 : x.toList = y.toList := h
  rw [Array.ext' h2]
theorem eq41d (m : Nat) (a b c d a' b' c' d' : Int) (w : World) : (Op.equalIn (m + 2) 34 (.agg #[.int .u64 a, .int .u64 b, .int .u64 c, .int .u64 d]) (.agg #[.int .u64 a', .int .u64 b', .int .u64 c', .int .u64 d'])).run Tryz.prog w = .ok (seE a b c d a' b' c' d') w := by
  have u3 := Tryz.underlying33
  have a3 := Tryz.isAgg33
  have z3 := Tryz.sizeOf33
  rw [Op.equalIn]
  simp only [Sem.run_bind, run_underlying Tryz.underlying34, Result.andThen_ok]
  simp only [Std.Legacy.Range.forIn_eq_forIn_range', Std.Legacy.Range.size, Nat.sub_zero, Nat.add_sub_cancel, Nat.div_one, List.range'_succ, List.range'_zero, List.forIn_cons, List.forIn_nil]
  unfold seE
  cases ha : (a == a')
  · go_simp
  cases hb : (b == b')
  · go_simp
  cases hc : (c == c')
  · go_simp
  cases hd : (d == d')
  · go_simp
  go_simp

theorem eq41e (a b c d a' b' c' d' : Int) (w : World) : (Op.equalIn 10000 34 (.agg #[.int .u64 a, .int .u64 b, .int .u64 c, .int .u64 d]) (.agg #[.int .u64 a', .int .u64 b', .int .u64 c', .int .u64 d'])).run Tryz.prog w = .ok (seE a b c d a' b' c' d') w := eq41d 9998 a b c d a' b' c' d' w

theorem set_eql (a b c d a' b' c' d' : Int) (W : World) : (binOp .eql 34 (.agg #[.int .u64 a, .int .u64 b, .int .u64 c, .int .u64 d]) (.agg #[.int .u64 a', .int .u64 b', .int .u64 c', .int .u64 d'])).run Tryz.prog W = .ok (.bool (seE a b c d a' b' c' d')) W := by
  have h := eq41e a b c d a' b' c' d'
  simp [go_sem, h]
theorem seE_zero (op a b c d : Int) (h : ¬ op = 5) : seE a b c d 0 0 0 0 = seF op a b c d := by
  unfold seE seF
  rw [if_neg h]
  by_cases ha : a = 0 <;> by_cases hb : b = 0 <;> by_cases hc : c = 0 <;> by_cases hd : d = 0 <;> simp [ha, hb, hc, hd]
end Go.Proofs.YtbnihflihelimaaGreat.T

namespace Go.Proofs.YtbnihflihelimaaGreat.T
open Go.RowKit
/-- A node, laid in a block. -/
structure NB (W : World) (g o : Nat) (n : Nd) : Prop where
  c0 : W.cell? ⟨g, o, none⟩ = some (.int .i64 n.op)
  c1 : W.cell? ⟨g, o + 1, none⟩ = some (.int .i64 n.nn)
  c2 : W.cell? ⟨g, o + 2, none⟩ = some (.string n.tx)
  c3 : W.cell? ⟨g, o + 3, none⟩ = some (.int .u64 n.s0)
  c4 : W.cell? ⟨g, o + 4, none⟩ = some (.int .u64 n.s1)
  c5 : W.cell? ⟨g, o + 5, none⟩ = some (.int .u64 n.s2)
  c6 : W.cell? ⟨g, o + 6, none⟩ = some (.int .u64 n.s3)
theorem NB.lt {W : World} {g o : Nat} {n : Nd} (h : NB W g o n) : g < W.heap.size := World.block_lt_of_cell? W _ h.c0
theorem NB.same {W W' : World} {g o : Nat} {n : Nd} (h : NB W g o n) (hb : W'.heap[g]? = W.heap[g]?) : NB W' g o n := by
  have key : ∀ j, W'.cell? ⟨g, j, none⟩ = W.cell? ⟨g, j, none⟩ := fun j => World.cell?_of_block (a := ⟨g, j, none⟩) hb
  exact ⟨(key _).trans h.c0, (key _).trans h.c1, (key _).trans h.c2, (key _).trans h.c3, (key _).trans h.c4, (key _).trans h.c5, (key _).trans h.c6⟩
theorem NB.below {W W' : World} {g o : Nat} {n : Nd} (h : NB W g o n) (hb : Below W.heap.size W W') : NB W' g o n := h.same (hb.block g h.lt)
abbrev ndO (n : Nd) : Obj := .cells #[.int .i64 n.op, .int .i64 n.nn, .string n.tx, .int .u64 n.s0, .int .u64 n.s1, .int .u64 n.s2, .int .u64 n.s3] 70
theorem nb_new (w : World) (n : Nd) : NB (w.alloc (ndO n)) w.heap.size 0 n := by
  have key : ∀ (j : Nat) u, (#[Value.int .i64 n.op, .int .i64 n.nn, .string n.tx, .int .u64 n.s0, .int .u64 n.s1, .int .u64 n.s2, .int .u64 n.s3] : Array Value)[j]? = some u → (w.alloc (ndO n)).cell? ⟨w.heap.size, j, none⟩ = some u := fun j u hu => by
    rw [cell_of_row (w.alloc (ndO n)) w.heap.size j _ 70 (0, 0) (heap_alloc_new w _)]
    exact hu
  exact ⟨key 0 _ rfl, key 1 _ rfl, key 2 _ rfl, key 3 _ rfl, key 4 _ rfl, key 5 _ rfl, key 6 _ rfl⟩
theorem below_box (w : World) (o : Obj) : Below w.heap.size w (w.alloc o) := (Below.refl _ _).alloc (Nat.le_refl _) _

set_option maxRecDepth 100000 in
set_option maxHeartbeats 2000000 in
theorem numberFits_any (op nn : Int) (tx : ByteArray) (a b c d : Int) (w : World) : Calls Tryz.prog 102 #[.agg #[.int .i64 op, .int .i64 nn, .string tx, .int .u64 a, .int .u64 b, .int .u64 c, .int .u64 d]] w fun e w' => e = .returned (.bool (nuF op nn)) ∧ Below w.heap.size w w' := by
  have key : ∀ (q : op = 14 ∨ op = 15 ∨ op = 16 ∨ op = 23), Hid (nuF op nn = decide (0 ≤ nn ∧ nn ≤ 50)) := fun q => (by show nuF op nn = _; unfold nuF; rw [if_pos q])
  by_cases h0 : op = 14 ∨ op = 15 ∨ op = 16 ∨ op = 23
  · have HE := key h0
    clear key
    rcases h0 with rfl | rfl | rfl | rfl
    all_goals
      by_cases n0 : 0 ≤ nn
      · have HF : Hid (nuF _ nn = decide (nn ≤ 50)) := (by show nuF _ nn = _; rw [HE.out]; simp only [n0, true_and])
        clear HE
        go_enter Tryz.func102, Tryz.ntmps102
        go_wp2_with fail
        go_ret
        exact ⟨by rw [HF.out]; rfl, below_box _ _⟩
      · have HF : Hid (nuF _ nn = false) := (by show nuF _ nn = _; rw [HE.out]; simp only [n0, false_and, decide_false])
        clear HE
        go_enter Tryz.func102, Tryz.ntmps102
        go_wp2_with fail
        go_ret
        exact ⟨by rw [HF.out]; rfl, below_box _ _⟩
  · have HF : Hid (nuF op nn = (nn == 0)) := (by show nuF op nn = _; unfold nuF; rw [if_neg h0]; rfl)
    have e1 : (op == 14) = false := beq_eq_false_iff_ne.2 (by omega)
    have e2 : (op == 15) = false := beq_eq_false_iff_ne.2 (by omega)
    have e3 : (op == 16) = false := beq_eq_false_iff_ne.2 (by omega)
    have e4 : (op == 23) = false := beq_eq_false_iff_ne.2 (by omega)
    clear h0 key
    go_enter Tryz.func102, Tryz.ntmps102
    go_wp2_with fail
    go_ret
    exact ⟨by rw [HF.out]; rfl, below_box _ _⟩

set_option maxRecDepth 100000 in
set_option maxHeartbeats 2000000 in
theorem setFits_any (op nn : Int) (tx : ByteArray) (a b c d : Int) (w : World) : Calls Tryz.prog 103 #[.agg #[.int .i64 op, .int .i64 nn, .string tx, .int .u64 a, .int .u64 b, .int .u64 c, .int .u64 d]] w fun e w' => e = .returned (.bool (seF op a b c d)) ∧ Below w.heap.size w w' := by
  by_cases h5 : op = 5
  · have HF : Hid (seF op a b c d = true) := (by show seF op a b c d = _; unfold seF; rw [if_pos h5])
    have e5 : (op == 5) = true := beq_iff_eq.2 h5
    clear h5
    go_enter Tryz.func103, Tryz.ntmps103
    go_wp2_with fail
    go_ret
    exact ⟨by rw [HF.out]; rfl, below_box _ _⟩
  · have HF : Hid (seF op a b c d = seE a b c d 0 0 0 0) := (by show seF op a b c d = _; rw [seE_zero op a b c d h5])
    have e5 : (op == 5) = false := beq_eq_false_iff_ne.2 h5
    have hq := set_eql a b c d 0 0 0 0
    clear h5
    go_enter Tryz.func103, Tryz.ntmps103
    go_wp2_with fail
    go_ret
    exact ⟨by rw [HF.out]; rfl, below_box _ _⟩

set_option maxRecDepth 100000 in
set_option maxHeartbeats 4000000 in
theorem textFits_any (op nn : Int) (tx : ByteArray) (a b c d : Int) (hs : tx.size ≤ 140737488355328) (w : World) : Calls Tryz.prog 101 #[.agg #[.int .i64 op, .int .i64 nn, .string tx, .int .u64 a, .int .u64 b, .int .u64 c, .int .u64 d]] w fun e w' => e = .returned (.bool (txF op tx)) ∧ Below w.heap.size w w' := by
  have HN : Hid (∀ w, Calls Tryz.prog 110 #[.string tx] w fun e w' => e = .returned (.bool (nmB tx)) ∧ w' = w) := fun w => isName_any tx hs w
  have HT : Hid (∀ w, Calls Tryz.prog 111 #[.string tx] w fun e w' => e = .returned (.bool (tmB tx)) ∧ w' = w) := fun w => isTemplate_any tx hs w
  by_cases h4 : op = 4
  · have e4 : (op == 4) = true := beq_iff_eq.2 h4
    by_cases q0 : tx.size = 0
    · have HF : Hid (txF op tx = false) := (by show txF op tx = _; unfold txF; rw [if_pos h4, decide_eq_false (by omega)])
      have t0 := emp_t q0
      clear h4 q0 HN HT
      go_enter Tryz.func101, Tryz.ntmps101
      go_wp2_with fail
      go_ret
      exact ⟨by rw [HF.out]; rfl, below_box _ _⟩
    · have HF : Hid (txF op tx = decide ((tx.size : Int) ≤ 255)) := (by
        show txF op tx = _
        unfold txF
        rw [if_pos h4]
        by_cases q : tx.size ≤ 255
        · rw [decide_eq_true (by omega), decide_eq_true (by omega)]
        · rw [decide_eq_false (by omega), decide_eq_false (by omega)])
      have t0 := emp_f q0
      clear h4 q0 HN HT
      go_enter Tryz.func101, Tryz.ntmps101
      go_wp2_with fail
      go_ret
      exact ⟨by rw [HF.out]; rfl, below_box _ _⟩
  have e4 : (op == 4) = false := beq_eq_false_iff_ne.2 h4
  by_cases h6 : op = 6
  · have e6 : (op == 6) = true := beq_iff_eq.2 h6
    have HF : Hid (txF op tx = nmB tx) := (by show txF op tx = _; unfold txF; rw [if_neg h4, if_pos h6])
    clear h4 h6 HT
    go_enter Tryz.func101, Tryz.ntmps101
    go_wp2_with fail
    refine (HN.out _).mono ?_
    rintro e w2 ⟨rfl, rfl⟩
    clear HN
    go_wp2_with fail
    go_ret
    exact ⟨by rw [HF.out]; rfl, below_box _ _⟩
  have e6 : (op == 6) = false := beq_eq_false_iff_ne.2 h6
  by_cases h19 : op = 19
  · have e19 : (op == 19) = true := beq_iff_eq.2 h19
    by_cases q0 : tx.size = 0
    · have HF : Hid (txF op tx = true) := (by show txF op tx = _; unfold txF; rw [if_neg h4, if_neg h6, if_pos h19, decide_eq_true q0]; rfl)
      have t0 := emp_t q0
      clear h4 h6 h19 q0 HN HT
      go_enter Tryz.func101, Tryz.ntmps101
      go_wp2_with fail
      go_ret
      exact ⟨by rw [HF.out]; rfl, below_box _ _⟩
    · have HF : Hid (txF op tx = nmB tx) := (by show txF op tx = _; unfold txF; rw [if_neg h4, if_neg h6, if_pos h19, decide_eq_false q0]; rfl)
      have t0 := emp_f q0
      clear h4 h6 h19 q0 HT
      go_enter Tryz.func101, Tryz.ntmps101
      go_wp2_with fail
      refine (HN.out _).mono ?_
      rintro e w2 ⟨rfl, rfl⟩
      clear HN
      go_wp2_with fail
      go_ret
      exact ⟨by rw [HF.out]; rfl, below_box _ _⟩
  have e19 : (op == 19) = false := beq_eq_false_iff_ne.2 h19
  by_cases h22 : op = 22
  · have e22 : (op == 22) = true := beq_iff_eq.2 h22
    have HF : Hid (txF op tx = tmB tx) := (by show txF op tx = _; unfold txF; rw [if_neg h4, if_neg h6, if_neg h19, if_pos h22])
    clear h4 h6 h19 h22 HN
    go_enter Tryz.func101, Tryz.ntmps101
    go_wp2_with fail
    refine (HT.out _).mono ?_
    rintro e w2 ⟨rfl, rfl⟩
    clear HT
    go_wp2_with fail
    go_ret
    exact ⟨by rw [HF.out]; rfl, below_box _ _⟩
  have e22 : (op == 22) = false := beq_eq_false_iff_ne.2 h22
  by_cases q0 : tx.size = 0
  · have HF : Hid (txF op tx = true) := (by show txF op tx = _; unfold txF; rw [if_neg h4, if_neg h6, if_neg h19, if_neg h22, decide_eq_true q0])
    have t0 := emp_t q0
    clear h4 h6 h19 h22 q0 HN HT
    go_enter Tryz.func101, Tryz.ntmps101
    go_wp2_with fail
    go_ret
    exact ⟨by rw [HF.out]; rfl, below_box _ _⟩
  · have HF : Hid (txF op tx = false) := (by show txF op tx = _; unfold txF; rw [if_neg h4, if_neg h6, if_neg h19, if_neg h22, decide_eq_false q0])
    have t0 := emp_f q0
    clear h4 h6 h19 h22 q0 HN HT
    go_enter Tryz.func101, Tryz.ntmps101
    go_wp2_with fail
    go_ret
    exact ⟨by rw [HF.out]; rfl, below_box _ _⟩

set_option maxRecDepth 100000 in
set_option maxHeartbeats 4000000 in
theorem alone_any (n : Nd) (hs : n.tx.size ≤ 140737488355328) (w : World) : Calls Tryz.prog 82 #[ndG n] w fun e w' => e = .returned (.int .i64 (alE n)) ∧ Below w.heap.size w w' := by
  obtain ⟨op, nn, tx, a, b, c, d⟩ := n
  have HA : Hid (∀ w, Calls Tryz.prog 43 #[.int .i64 op] w fun e w' => e = .returned (.int .i64 (ar op)) ∧ w' = w) := fun w => arity_any op w
  have HT : Hid (∀ w, Calls Tryz.prog 101 #[.agg #[.int .i64 op, .int .i64 nn, .string tx, .int .u64 a, .int .u64 b, .int .u64 c, .int .u64 d]] w fun e w' => e = .returned (.bool (txF op tx)) ∧ Below w.heap.size w w') := fun w => textFits_any op nn tx a b c d hs w
  have HN : Hid (∀ w, Calls Tryz.prog 102 #[.agg #[.int .i64 op, .int .i64 nn, .string tx, .int .u64 a, .int .u64 b, .int .u64 c, .int .u64 d]] w fun e w' => e = .returned (.bool (nuF op nn)) ∧ Below w.heap.size w w') := fun w => numberFits_any op nn tx a b c d w
  have HS : Hid (∀ w, Calls Tryz.prog 103 #[.agg #[.int .i64 op, .int .i64 nn, .string tx, .int .u64 a, .int .u64 b, .int .u64 c, .int .u64 d]] w fun e w' => e = .returned (.bool (seF op a b c d)) ∧ Below w.heap.size w w') := fun w => setFits_any op nn tx a b c d w
  by_cases h0 : ar op < 0
  · have HE : Hid (alE ⟨op, nn, tx, a, b, c, d⟩ = 40) := (by show alE _ = _; unfold alE; rw [if_pos h0])
    go_enter Tryz.func82, Tryz.ntmps82
    go_wp2_with fail
    refine (HA.out _).mono ?_
    rintro e w2 ⟨rfl, rfl⟩
    clear HA HT HN HS
    generalize ar op = k at *
    go_wp2_with fail
    go_ret
    exact ⟨by rw [HE.out]; rfl, below_box _ _⟩
  have HE : Hid (alE ⟨op, nn, tx, a, b, c, d⟩ = if txF op tx && nuF op nn && seF op a b c d then 0 else 41) := (by show alE _ = _; unfold alE; rw [if_neg h0]; rfl)
  go_enter Tryz.func82, Tryz.ntmps82
  go_wp2_with fail
  refine (HA.out _).mono ?_
  rintro e w2 ⟨rfl, rfl⟩
  clear HA
  generalize ar op = k at *
  go_wp2_with fail
  refine (HT.out _).mono ?_
  rintro e w3 ⟨rfl, b3⟩
  have HB : Hid (NB w3 w.heap.size 0 ⟨op, nn, tx, a, b, c, d⟩) := (nb_new w ⟨op, nn, tx, a, b, c, d⟩).below b3
  have HW : Hid (Below w.heap.size w w3) := (below_box _ _).trans (b3.mono (below_box _ _).size)
  clear b3 HT
  obtain ⟨c0, c1, c2, c3, c4, c5, c6⟩ := HB.out
  simp only [Nat.zero_add] at c0 c1 c2 c3 c4 c5 c6
  generalize txF op tx = t1 at *
  cases t1 with
  | false =>
    clear HN HS
    go_wp2_with fail
    go_ret
    exact ⟨by rw [HE.out]; rfl, HW.out⟩
  | true =>
    go_wp2_with fail
    refine (HN.out _).mono ?_
    rintro e w4 ⟨rfl, b4⟩
    clear HN c0 c1 c2 c3 c4 c5 c6
    have HB4 : Hid (NB w4 w.heap.size 0 ⟨op, nn, tx, a, b, c, d⟩) := HB.out.below b4
    have HW4 : Hid (Below w.heap.size w w4) := HW.out.trans (b4.mono HW.out.size)
    clear b4 HB HW
    obtain ⟨c0, c1, c2, c3, c4, c5, c6⟩ := HB4.out
    simp only [Nat.zero_add] at c0 c1 c2 c3 c4 c5 c6
    generalize nuF op nn = t2 at *
    cases t2 with
    | false =>
      clear HS
      go_wp2_with fail
      go_ret
      exact ⟨by rw [HE.out]; rfl, HW4.out⟩
    | true =>
      go_wp2_with fail
      refine (HS.out _).mono ?_
      rintro e w5 ⟨rfl, b5⟩
      clear HS c0 c1 c2 c3 c4 c5 c6
      have HW5 : Hid (Below w.heap.size w w5) := HW4.out.trans (b5.mono HW4.out.size)
      clear b5 HW4 HB4
      generalize seF op a b c d = t3 at *
      cases t3 with
      | false =>
        go_wp2_with fail
        go_ret
        exact ⟨by rw [HE.out]; rfl, HW5.out⟩
      | true =>
        go_wp2_with fail
        go_ret
        exact ⟨by rw [HE.out]; rfl, HW5.out⟩
end Go.Proofs.YtbnihflihelimaaGreat.T

namespace Go.Proofs.YtbnihflihelimaaGreat.T
open Go.RowKit
theorem below_drewN {B : Nat} {a w : World} (h : Below B a w) (n : Nat) : Below B a (w.drewN n) := by
  induction n with
  | zero => exact h
  | succ n ih => exact ih.drew
theorem max_int (a b : Nat) : (if a < b then (b : Int) else (a : Int)) = ((max a b : Nat) : Int) := by split <;> omega
theorem max_int1 (a b : Nat) : (if (a : Int) < (b : Int) + 1 then (b : Int) + 1 else (a : Int)) = ((max a (b + 1) : Nat) : Int) := by split <;> omega
/-- A pattern's cells. -/
def NdL (W : World) (g o : Nat) (L : List Nd) : Prop := ∀ (j : Nat) n, L[j]? = some n → NB W g (o + j * 7) n
def RdN (W : World) (A : Option Addr) (L : List Nd) : Prop := L ≠ [] → ∃ g o, A = some ⟨g, o, none⟩ ∧ g < W.heap.size ∧ NdL W g o L
theorem NdL.same {W W' : World} {g o : Nat} {L : List Nd} (h : NdL W g o L) (hb : W'.heap[g]? = W.heap[g]?) : NdL W' g o L := fun j n hj => (h j n hj).same hb
theorem RdN.below {W W' : World} {A : Option Addr} {L : List Nd} {B : Nat} (h : RdN W A L) (hb : Below B W W') (hB : W.heap.size ≤ B) : RdN W' A L := fun hl => by
  obtain ⟨g, o, e, lt, c⟩ := h hl
  exact ⟨g, o, e, Nat.lt_of_lt_of_le lt hb.size, c.same (hb.block g (by omega))⟩

/-- A part in a box of its own. -/
structure PB (W : World) (b : Nat) (f l h : Int) : Prop where
  heap : W.heap[b]? = some (.cells #[.int .i64 f, .int .i64 l, .int .i64 h] 120 (0, 0))
theorem PB.lt {W : World} {b : Nat} {f l h : Int} (x : PB W b f l h) : b < W.heap.size := (Array.getElem?_eq_some_iff.1 x.heap).1
theorem PB.c0 {W : World} {b : Nat} {f l h : Int} (x : PB W b f l h) : W.cell? ⟨b, 0, none⟩ = some (.int .i64 f) := by rw [cell_of_row W b 0 _ 120 (0, 0) x.heap]; rfl
theorem PB.c1 {W : World} {b : Nat} {f l h : Int} (x : PB W b f l h) : W.cell? ⟨b, 1, none⟩ = some (.int .i64 l) := by rw [cell_of_row W b 1 _ 120 (0, 0) x.heap]; rfl
theorem PB.c2 {W : World} {b : Nat} {f l h : Int} (x : PB W b f l h) : W.cell? ⟨b, 2, none⟩ = some (.int .i64 h) := by rw [cell_of_row W b 2 _ 120 (0, 0) x.heap]; rfl
theorem PB.fz {W : World} {b : Nat} {f l h : Int} (x : PB W b f l h) (j : Nat) : W.frozen? ⟨b, j, none⟩ = false := frozen_of_row W b j _ 120 x.heap
theorem PB.same {W W' : World} {b : Nat} {f l h : Int} (x : PB W b f l h) (hb : W'.heap[b]? = W.heap[b]?) : PB W' b f l h := ⟨hb.trans x.heap⟩
theorem PB.new (W : World) (f l h : Int) : PB (W.alloc (.cells #[.int .i64 f, .int .i64 l, .int .i64 h] 120)) W.heap.size f l h := ⟨heap_alloc_new W _⟩
theorem PB.alloc {W : World} {b : Nat} {f l h : Int} (x : PB W b f l h) (o : Obj) : PB (W.alloc o) b f l h := x.same ((below_box W o).block b x.lt)
theorem PB.set0 {W : World} {b : Nat} {f l h : Int} (x : PB W b f l h) (v : Int) : PB (W.setCell ⟨b, 0, none⟩ (.int .i64 v)) b v l h := ⟨by rw [heap_setCell_same W b 0 _ 120 _ x.heap]; rfl⟩
theorem PB.set1 {W : World} {b : Nat} {f l h : Int} (x : PB W b f l h) (v : Int) : PB (W.setCell ⟨b, 1, none⟩ (.int .i64 v)) b f v h := ⟨by rw [heap_setCell_same W b 1 _ 120 _ x.heap]; rfl⟩
theorem PB.set2 {W : World} {b : Nat} {f l h : Int} (x : PB W b f l h) (v : Int) : PB (W.setCell ⟨b, 2, none⟩ (.int .i64 v)) b f l v := ⟨by rw [heap_setCell_same W b 2 _ 120 _ x.heap]; rfl⟩
theorem PB.other {W : World} {b : Nat} {f l h : Int} (x : PB W b f l h) (a : Addr) (v : Value) (ne : b ≠ a.block) : PB (W.setCell a v) b f l h := x.same (heap_setCell_other W a b v ne)

/-- Parts one behind the other. -/
def ptV (p : Pt) : List Value := [.int .i64 p.1, .int .i64 p.2.1, .int .i64 p.2.2]
def ptc (l : List Pt) : List Value := l.flatMap ptV
theorem ptc_len (l : List Pt) : (ptc l).length = l.length * 3 := by
  induction l with
  | nil => rfl
  | cons a l ih => show (ptV a ++ ptc l).length = _; rw [List.length_append, ih, List.length_cons]; show 3 + _ = _; omega
theorem ptc_append (a b : List Pt) : ptc (a ++ b) = ptc a ++ ptc b := List.flatMap_append
structure P3 (W : World) (g o : Nat) (p : Pt) : Prop where
  c0 : W.cell? ⟨g, o, none⟩ = some (.int .i64 p.1)
  c1 : W.cell? ⟨g, o + 1, none⟩ = some (.int .i64 p.2.1)
  c2 : W.cell? ⟨g, o + 2, none⟩ = some (.int .i64 p.2.2)
theorem P3.same {W W' : World} {g o : Nat} {p : Pt} (h : P3 W g o p) (hb : W'.heap[g]? = W.heap[g]?) : P3 W' g o p := by
  have key : ∀ j, W'.cell? ⟨g, j, none⟩ = W.cell? ⟨g, j, none⟩ := fun j => World.cell?_of_block (a := ⟨g, j, none⟩) hb
  exact ⟨(key _).trans h.c0, (key _).trans h.c1, (key _).trans h.c2⟩
def PtL (W : World) (g o : Nat) (l : List Pt) : Prop := ∀ (j : Nat) p, l[j]? = some p → P3 W g (o + j * 3) p
def RdP (W : World) (A : Option Addr) (l : List Pt) : Prop := l ≠ [] → ∃ g o, A = some ⟨g, o, none⟩ ∧ g < W.heap.size ∧ PtL W g o l
theorem PtL.same {W W' : World} {g o : Nat} {l : List Pt} (h : PtL W g o l) (hb : W'.heap[g]? = W.heap[g]?) : PtL W' g o l := fun j n hj => (h j n hj).same hb
theorem RdP.below {W W' : World} {A : Option Addr} {l : List Pt} {B : Nat} (h : RdP W A l) (hb : Below B W W') (hB : W.heap.size ≤ B) : RdP W' A l := fun hl => by
  obtain ⟨g, o, e, lt, c⟩ := h hl
  exact ⟨g, o, e, Nat.lt_of_lt_of_le lt hb.size, c.same (hb.block g (by omega))⟩

/-- The part as it grows. -/
def hgt (L : List Nd) (op : Int) (m i : Nat) (x : Pt) : Nat := if i = 0 ∧ m = 2 ∧ opAt L x.2.1 = op then x.2.2 else x.2.2 + 1
def pw (L : List Nd) (k : Nat) (op : Int) (xs : List Pt) : Nat → Pt
  | 0 => (k, k, 1)
  | i + 1 => match xs[i]? with
    | none => pw L k op xs i
    | some x => ((if i = 0 then x.1 else (pw L k op xs i).1), k, max (pw L k op xs i).2.2 (hgt L op xs.length i x))
theorem pw_last (L : List Nd) (k : Nat) (op : Int) (xs : List Pt) (i : Nat) : (pw L k op xs i).2.1 = k := by
  induction i with
  | zero => rfl
  | succ i ih => rw [pw]; split
                 · exact ih
                 · rfl
theorem pw_succ {L : List Nd} {k : Nat} {op : Int} {xs : List Pt} {i : Nat} {x : Pt} (h : xs[i]? = some x) : pw L k op xs (i + 1) = ((if i = 0 then x.1 else (pw L k op xs i).1), k, max (pw L k op xs i).2.2 (hgt L op xs.length i x)) := by
  rw [pw, h]
theorem pw_mk (L : List Nd) (k : Nat) (op : Int) (st : List Pt) (h : arN op ≤ st.length) : pw L k op (st.take (arN op)).reverse (arN op) = mk L k op st := by
  have h2 := arN_le op
  unfold mk
  by_cases a0 : arN op = 0
  · rw [if_pos a0, a0]; rfl
  rw [if_neg a0]
  by_cases a1 : arN op = 1
  · rw [if_pos a1]
    rw [a1] at h ⊢
    cases st with
    | nil => simp at h
    | cons x r => rw [pw_succ (x := x) (by simp)]; simp [pw, hgt]
  · rw [if_neg a1]
    have e2 : arN op = 2 := by omega
    rw [e2] at h ⊢
    cases st with
    | nil => simp at h
    | cons y r => cases r with
      | nil => simp at h
      | cons x r =>
        rw [pw_succ (x := y) (by simp), pw_succ (x := x) (by simp)]
        simp [pw, hgt]

structure AtA (w wr : World) (p : Pt) : Prop where
  b6 : PB wr w.heap.size 0 0 0
  b7 : PB wr (w.heap.size + 1) p.1 p.2.1 p.2.2
  b : Below w.heap.size w wr

structure AtR (w w2 : World) (bx : Nat) (P x : Pt) (gp op : Nat) (L : List Nd) : Prop where
  b6 : PB w2 w.heap.size 0 0 0
  b7 : PB w2 (w.heap.size + 1) P.1 P.2.1 P.2.2
  bb : PB w2 bx x.1 x.2.1 x.2.2
  b : Below w.heap.size w w2
  p : NdL w2 gp op L
  lp : gp < w.heap.size
theorem AtR.below {w w2 w3 : World} {bx : Nat} {P x : Pt} {gp op : Nat} {L : List Nd} (h : AtR w w2 bx P x gp op L) (hb : Below w2.heap.size w2 w3) : AtR w w3 bx P x gp op L :=
  ⟨h.b6.same (hb.block _ h.b6.lt), h.b7.same (hb.block _ h.b7.lt), h.bb.same (hb.block _ h.bb.lt), h.b.trans (hb.mono h.b.size), h.p.same (hb.block _ (Nat.lt_of_lt_of_le h.lp h.b.size)), h.lp⟩
theorem AtA.box {w wr : World} {P : Pt} (h : AtA w wr P) {gp op : Nat} {L : List Nd} (hp : NdL w gp op L) (lp : gp < w.heap.size) (x : Pt) : AtR w (wr.alloc (.cells #[.int .i64 x.1, .int .i64 x.2.1, .int .i64 x.2.2] 120)) wr.heap.size P x gp op L :=
  ⟨h.b6.alloc _, h.b7.alloc _, PB.new _ _ _ _, h.b.alloc h.b.size _, (hp.same (h.b.block _ lp)).same ((below_box wr _).block _ (Nat.lt_of_lt_of_le lp h.b.size)), lp⟩
theorem AtA.set0 {w wr : World} {P : Pt} (h : AtA w wr P) (v : Nat) : AtA w (wr.setCell ⟨w.heap.size + 1, 0, none⟩ (.int .i64 v)) (v, P.2.1, P.2.2) :=
  ⟨h.b6.other _ _ (by simp), h.b7.set0 _, h.b.setCell (by simp) _⟩
theorem AtR.set2 {w w2 : World} {bx : Nat} {P x : Pt} {gp op : Nat} {L : List Nd} (h : AtR w w2 bx P x gp op L) (v : Nat) : AtA w (w2.setCell ⟨w.heap.size + 1, 2, none⟩ (.int .i64 v)) (P.1, P.2.1, v) :=
  ⟨h.b6.other _ _ (by simp), h.b7.set2 _, h.b.setCell (by simp) _⟩

set_option maxRecDepth 100000 in
set_option maxHeartbeats 8000000 in
theorem above_any (L : List Nd) (Ap : Option Addr) (cp : Nat) (k : Nat) (n : Nd) (hn : L[k]? = some n) (hL : L.length ≤ 2048) (A : Option Addr) (c : Nat) (xs : List Pt) (hx : xs.length ≤ 2) (hxs : ∀ x ∈ xs, x.1 ≤ 2048 ∧ x.2.1 < L.length ∧ x.2.2 ≤ 100) (w : World) (hp : RdN w Ap L) (hr : RdP w A xs) :
    Calls Tryz.prog 83 #[.slice Ap L.length cp, .int .i64 k, .slice A xs.length c] w fun e w' => e = .returned (.agg #[.int .i64 (pw L k n.op xs xs.length).1, .int .i64 (pw L k n.op xs xs.length).2.1, .int .i64 (pw L k n.op xs xs.length).2.2]) ∧ Below w.heap.size w w' := by
  have hk : k < L.length := by
    by_cases q : k < L.length
    · exact q
    · rw [List.getElem?_eq_none (by omega)] at hn; cases hn
  obtain ⟨gp, op, rfl, lp, cpl⟩ := hp (by rintro rfl; simp at hk)
  have HP := (show Hid (NdL w gp op L) from cpl)
  have HR := (show Hid (RdP w A xs) from hr)
  have HX := (show Hid (∀ x ∈ xs, x.1 ≤ 2048 ∧ x.2.1 < L.length ∧ x.2.2 ≤ 100) from hxs)
  have HN := (show Hid (L[k]? = some n) from hn)
  have HG := (show Hid (∀ i, i < xs.length → ∃ x, xs[i]? = some x ∧ x ∈ xs ∧ xs ≠ []) from fun i hi => ⟨xs[i], List.getElem?_eq_getElem hi, List.getElem_mem hi, by rintro rfl; simp at hi⟩)
  have HB : Hid (∀ i, i ≤ xs.length → (pw L k n.op xs i).1 ≤ 2048 ∧ (pw L k n.op xs i).2.2 ≤ 101) := by
    show ∀ i, i ≤ xs.length → _
    intro i
    induction i with
    | zero => intro _; exact ⟨by show k ≤ 2048; omega, by show 1 ≤ 101; omega⟩
    | succ i ih =>
      intro hi
      obtain ⟨i1, i2⟩ := ih (by omega)
      have hxi : xs[i]? = some xs[i] := List.getElem?_eq_getElem (by omega)
      obtain ⟨q1, q2, q3⟩ := hxs xs[i] (List.getElem_mem (by omega))
      rw [pw_succ hxi]
      refine ⟨?_, ?_⟩
      · show (if i = 0 then xs[i].1 else _) ≤ 2048
        split <;> omega
      · show max _ (hgt L n.op xs.length i xs[i]) ≤ 101
        have : hgt L n.op xs.length i xs[i] ≤ 101 := by unfold hgt; split <;> omega
        omega
  have HS := (show Hid (∀ i x, xs[i]? = some x → pw L k n.op xs (i + 1) = ((if i = 0 then x.1 else (pw L k n.op xs i).1), k, max (pw L k n.op xs i).2.2 (hgt L n.op xs.length i x))) from fun i x h => pw_succ h)
  have HLst := (show Hid (∀ i, (pw L k n.op xs i).2.1 = k) from fun i => pw_last L k n.op xs i)
  have H0 := (show Hid (pw L k n.op xs 0 = (k, k, 1)) from rfl)
  have HA := (show Hid (AtA w ((w.alloc (.cells #[.int .i64 0, .int .i64 0, .int .i64 0] 120)).alloc (.cells #[.int .i64 k, .int .i64 k, .int .i64 1] 120)) (k, k, 1)) from by
    have h1 := PB.new w 0 0 0
    have h2 := PB.new (w.alloc (.cells #[.int .i64 0, .int .i64 0, .int .i64 0] 120)) k k 1
    refine ⟨h1.alloc _, ?_, (below_box w _).alloc (below_box w _).size _⟩
    have hsz : (w.alloc (.cells #[.int .i64 0, .int .i64 0, .int .i64 0] 120)).heap.size = w.heap.size + 1 := by simp
    rw [hsz] at h2
    exact h2)
  clear cpl hr hxs hn hp
  go_enter Tryz.func83, Tryz.ntmps83
  go_wp2_with fail
  generalize hm : xs.length = m at *
  go_loopw [16] (fun t wr => ∃ i : Nat, i ≤ m ∧ t = .int .i64 i ∧ Hid (AtA w wr (pw L k n.op xs i))) (fun t _ => m - (intOf t).toNat)
  case atStart => exact ⟨0, by omega, by go_num, HA⟩
  case round =>
    obtain ⟨i, hi, rfl, HW⟩ := hrel
    clear HA H0
    by_cases hlt : i < m
    · obtain ⟨x, hxi, hmem, hne⟩ := HG.out i hlt
      obtain ⟨g, o, rfl, lg, cl⟩ := HR.out hne
      obtain ⟨q1, q2, q3⟩ := HX.out x hmem
      obtain ⟨b6, b7, bw⟩ := HW.out
      obtain ⟨p1, p2⟩ := HB.out i hi
      have HSx := (show Hid _ from HS.out i x hxi)
      have hl2 := HLst.out i
      have hbd : x.2.2 + 1 ≤ 200 := by omega
      obtain ⟨d0, d1, d2⟩ := (cl.same (bw.block g lg)) i x hxi
      have hy : L[x.2.1]? = some L[x.2.1] := List.getElem?_eq_getElem q2
      have HO := (show Hid (L[x.2.1]? = some L[x.2.1] ∧ L[x.2.1].op = opAt L x.2.1) from ⟨hy, (op_of hy).symm⟩)
      have z0 : (0 : Int) ≤ (i : Int) := by omega
      have z1 : (i : Int) < (m : Int) := by omega
      have z2 : (0 : Int) ≤ (k : Int) := by omega
      have z3 : (k : Int) < (L.length : Int) := by omega
      have z4 : (0 : Int) ≤ (x.2.1 : Int) := by omega
      have z5 : (x.2.1 : Int) < (L.length : Int) := by omega
      have c0 := b7.c0
      have f0 := b7.fz 0
      have hsz := b7.lt
      clear HX HB HS HLst HG HR hy cl b6 b7 bw hne hmem
      generalize hP : pw L k n.op xs i = P at *
      clear hP
      obtain ⟨P1, P2, P3⟩ := P
      obtain ⟨x1, x2, x3⟩ := x
      simp only at q1 q2 q3 p1 p2 hl2 hbd d0 d1 d2 z4 z5 c0 HO HSx
      subst hl2
      by_cases hi0 : i = 0
      · have HA2 := (show Hid (AtR w ((wr.setCell ⟨w.heap.size + 1, 0, none⟩ (.int .i64 x1)).alloc (.cells #[.int .i64 x1, .int .i64 x2, .int .i64 x3] 120)) wr.heap.size (x1, P2, P3) (x1, x2, x3) gp op L) from by
          have h := (HW.out.set0 x1).box HP.out lp (x1, x2, x3)
          rw [World.size_setCell] at h
          exact h)
        have ti : ((i : Int) == 0) = true := beq_iff_eq.2 (by omega)
        have HY : Hid (pw L P2 n.op xs (i + 1) = (x1, P2, max P3 (if m = 2 ∧ opAt L x2 = n.op then x3 else x3 + 1))) := by
          show pw L P2 n.op xs (i + 1) = _
          rw [HSx.out, if_pos hi0]
          unfold hgt
          rw [hi0]
          simp only [true_and]
        clear hxi HSx
        by_cases hm2 : m = 2
        · have t1 : ((m : Int) == 2) = true := beq_iff_eq.2 (by omega)
          by_cases ho : opAt L x2 = n.op
          · have HZ : Hid (pw L P2 n.op xs (i + 1) = (x1, P2, max P3 x3)) := by
              show pw L P2 n.op xs (i + 1) = _
              rw [HY.out, if_pos ⟨hm2, ho⟩]
            have t2 : (opAt L x2 == n.op) = true := beq_iff_eq.2 ho
            clear hm2 ho hi0 HY
            go_wp2_with fail
            generalize (wr.setCell ⟨w.heap.size + 1, 0, none⟩ (.int .i64 x1)).alloc (.cells #[.int .i64 x1, .int .i64 x2, .int .i64 x3] 120) = w2 at *
            have e1 := (HA2.out.p x2 _ HO.out.1).c0
            have e2 := (HA2.out.p P2 n HN.out).c0
            rw [HO.out.2] at e1
            have k1 := HA2.out.bb.c1
            have k2 := HA2.out.bb.c2
            clear c0 f0 d0 d1 d2 HW HP HN HO
            generalize opAt L x2 = ox at *
            go_quiet (fail)
            have HA3 := (show Hid (AtR w (w2.drewN nq) wr.heap.size (x1, P2, P3) (x1, x2, x3) gp op L) from HA2.out.below (below_drewN (Below.refl _ _) _))
            generalize w2.drewN nq = w3 at *
            clear e1 e2 k1 k2 HA2
            have k2 := HA3.out.bb.c2
            have c2 := HA3.out.b7.c2
            have f2 := HA3.out.b7.fz 2
            simp only at k2 c2
            go_wp2_with fail
            go_roundw
            case rel =>
              have h := HA3.out.set2 (max P3 x3)
              rw [← max_int] at h
              exact ⟨i + 1, by omega, by go_num, by rw [HZ.out]; exact h⟩
            case measure => simp [intOf]; omega
          · have HZ : Hid (pw L P2 n.op xs (i + 1) = (x1, P2, max P3 (x3 + 1))) := by
              show pw L P2 n.op xs (i + 1) = _
              rw [HY.out, if_neg (fun q => ho q.2)]
            have t2 : (opAt L x2 == n.op) = false := beq_eq_false_iff_ne.2 ho
            clear hm2 ho hi0 HY
            go_wp2_with fail
            generalize (wr.setCell ⟨w.heap.size + 1, 0, none⟩ (.int .i64 x1)).alloc (.cells #[.int .i64 x1, .int .i64 x2, .int .i64 x3] 120) = w2 at *
            have e1 := (HA2.out.p x2 _ HO.out.1).c0
            have e2 := (HA2.out.p P2 n HN.out).c0
            rw [HO.out.2] at e1
            have k1 := HA2.out.bb.c1
            have k2 := HA2.out.bb.c2
            clear c0 f0 d0 d1 d2 HW HP HN HO
            generalize opAt L x2 = ox at *
            go_quiet (fail)
            have HA3 := (show Hid (AtR w (w2.drewN nq) wr.heap.size (x1, P2, P3) (x1, x2, x3) gp op L) from HA2.out.below (below_drewN (Below.refl _ _) _))
            generalize w2.drewN nq = w3 at *
            clear e1 e2 k1 k2 HA2
            have k2 := HA3.out.bb.c2
            have c2 := HA3.out.b7.c2
            have f2 := HA3.out.b7.fz 2
            simp only at k2 c2
            go_wp2_with fail
            go_roundw
            case rel =>
              have h := HA3.out.set2 (max P3 (x3 + 1))
              rw [← max_int1] at h
              exact ⟨i + 1, by omega, by go_num, by rw [HZ.out]; exact h⟩
            case measure => simp [intOf]; omega
        · have t1 : ((m : Int) == 2) = false := beq_eq_false_iff_ne.2 (by omega)
          have HZ : Hid (pw L P2 n.op xs (i + 1) = (x1, P2, max P3 (x3 + 1))) := by
            show pw L P2 n.op xs (i + 1) = _
            rw [HY.out, if_neg (fun q => hm2 q.1)]
          clear hm2 hi0 HY
          go_wp2_with fail
          generalize (wr.setCell ⟨w.heap.size + 1, 0, none⟩ (.int .i64 x1)).alloc (.cells #[.int .i64 x1, .int .i64 x2, .int .i64 x3] 120) = w2 at *
          have e1 := (HA2.out.p x2 _ HO.out.1).c0
          have e2 := (HA2.out.p P2 n HN.out).c0
          rw [HO.out.2] at e1
          have k1 := HA2.out.bb.c1
          have k2 := HA2.out.bb.c2
          clear c0 f0 d0 d1 d2 HW HP HN HO
          generalize opAt L x2 = ox at *
          go_quiet (fail)
          have HA3 := (show Hid (AtR w (w2.drewN nq) wr.heap.size (x1, P2, P3) (x1, x2, x3) gp op L) from HA2.out.below (below_drewN (Below.refl _ _) _))
          generalize w2.drewN nq = w3 at *
          clear e1 e2 k1 k2 HA2
          have k2 := HA3.out.bb.c2
          have c2 := HA3.out.b7.c2
          have f2 := HA3.out.b7.fz 2
          simp only at k2 c2
          go_wp2_with fail
          go_roundw
          case rel =>
            have h := HA3.out.set2 (max P3 (x3 + 1))
            rw [← max_int1] at h
            exact ⟨i + 1, by omega, by go_num, by rw [HZ.out]; exact h⟩
          case measure => simp [intOf]; omega
      · have HA3 := (show Hid (AtR w (wr.alloc (.cells #[.int .i64 x1, .int .i64 x2, .int .i64 x3] 120)) wr.heap.size (P1, P2, P3) (x1, x2, x3) gp op L) from HW.out.box HP.out lp (x1, x2, x3))
        have ti : ((i : Int) == 0) = false := beq_eq_false_iff_ne.2 (by omega)
        have HZ : Hid (pw L P2 n.op xs (i + 1) = (P1, P2, max P3 (x3 + 1))) := by
          show pw L P2 n.op xs (i + 1) = _
          rw [HSx.out, if_neg hi0]
          unfold hgt
          rw [if_neg (fun q => hi0 q.1)]
        have c2 := HW.out.b7.c2
        have f2 := HW.out.b7.fz 2
        simp only at c2
        clear hxi HSx hi0 HO HN HP
        go_wp2_with fail
        go_roundw
        case rel =>
          have h := HA3.out.set2 (max P3 (x3 + 1))
          rw [← max_int1] at h
          refine ⟨i + 1, by omega, by go_num, ?_⟩
          rw [HZ.out]
          have e : ((wr.setCell ⟨w.heap.size + 1, 2, none⟩ (.int .i64 (if (P3 : Int) < (x3 : Int) + 1 then (x3 : Int) + 1 else (P3 : Int)))).alloc (.cells #[.int .i64 x1, .int .i64 x2, .int .i64 x3] 120)) = (wr.alloc (.cells #[.int .i64 x1, .int .i64 x2, .int .i64 x3] 120)).setCell ⟨w.heap.size + 1, 2, none⟩ (.int .i64 (if (P3 : Int) < (x3 : Int) + 1 then (x3 : Int) + 1 else (P3 : Int))) := by
            rw [World.setCell_alloc_past _ _ _ _ hsz]
          rw [e]
          exact h
        case measure => simp [intOf]; omega
    · obtain rfl : i = m := by omega
      have hlen := hm
      subst hlen
      have c0 := HW.out.b7.c0
      have c1 := HW.out.b7.c1
      have c2 := HW.out.b7.c2
      have d0 := HW.out.b6.c0
      have d1 := HW.out.b6.c1
      have d2 := HW.out.b6.c2
      have f0 := HW.out.b6.fz 0
      have f1 := HW.out.b6.fz 1
      have f2 := HW.out.b6.fz 2
      clear HX HB HS HLst HG HR HP HN
      have HV := (show Hid (PB (((wr.setCell ⟨w.heap.size, 0, none⟩ (.int .i64 (pw L k n.op xs xs.length).1)).setCell ⟨w.heap.size, 1, none⟩ (.int .i64 (pw L k n.op xs xs.length).2.1)).setCell ⟨w.heap.size, 2, none⟩ (.int .i64 (pw L k n.op xs xs.length).2.2)) w.heap.size _ _ _) from ((HW.out.b6.set0 _).set1 _).set2 _)
      have HU := (show Hid (Below w.heap.size w (((wr.setCell ⟨w.heap.size, 0, none⟩ (.int .i64 (pw L k n.op xs xs.length).1)).setCell ⟨w.heap.size, 1, none⟩ (.int .i64 (pw L k n.op xs xs.length).2.1)).setCell ⟨w.heap.size, 2, none⟩ (.int .i64 (pw L k n.op xs xs.length).2.2))) from ((HW.out.b.setCell (Nat.le_refl _) _).setCell (Nat.le_refl _) _).setCell (Nat.le_refl _) _)
      clear HW
      generalize hP : pw L k n.op xs xs.length = P at *
      have HP := (show Hid _ from hP)
      clear hP
      go_wp2_with fail
      generalize ((wr.setCell ⟨w.heap.size, 0, none⟩ (.int .i64 P.1)).setCell ⟨w.heap.size, 1, none⟩ (.int .i64 P.2.1)).setCell ⟨w.heap.size, 2, none⟩ (.int .i64 P.2.2) = w9 at *
      clear c0 c1 c2 d0 d1 d2 f0 f1 f2
      have c0 := HV.out.c0
      have c1 := HV.out.c1
      have c2 := HV.out.c2
      rw [HP.out]
      refine bodyPost_ret (v := .agg #[.int .i64 P.1, .int .i64 P.2.1, .int .i64 P.2.2]) (by simp [results, Tryz.results83, go_sem, c0, c1, c2]) rfl ⟨rfl, HU.out⟩
end Go.Proofs.YtbnihflihelimaaGreat.T

namespace Go.Proofs.YtbnihflihelimaaGreat.T
open Go.ChangeShapes Go.WideShapes Go.ChangeAt Go.RowKit
theorem Tryz.cells70 : Tryz.prog.cellsOf 70 = 7 := by kernel_rfl
theorem Tryz.cells34 : Tryz.prog.cellsOf 34 = 4 := by kernel_rfl
theorem Tryz.cells32 : Tryz.prog.cellsOf 32 = 1 := by kernel_rfl
theorem Tryz.cells9 : Tryz.prog.cellsOf 9 = 1 := by kernel_rfl
theorem Tryz.cells3 : Tryz.prog.cellsOf 3 = 1 := by kernel_rfl
theorem Tryz.bytes70 : Tryz.prog.bytesOf 70 = 64 := by kernel_rfl

theorem own : ownKnob Tryz.prog.godebug = none := by kernel_rfl
theorem laidOut : laidOutB Tryz.prog = true := by kernel_rfl
theorem sized_at {H : Type} {P : Program} {ts : List TypeId} {ds : List (DataW H)} (h : (DataW.weightsEach P ts ds).all (· ≤ reachBytes) = true) {j : Nat} {t : TypeId} {d : DataW H} (ht : ts[j]? = some t) (hd : ds[j]? = some d) : ∀ n ∈ d.weights P t, n ≤ reachBytes := fun n hn => by
  have := List.all_eq_true.1 h _ (DataW.weights_mem_each ht hd n hn)
  simpa using this
theorem weights_all {H : Type} (P : Program) (e : TypeId) : ∀ (l : List (DataW H)) (d : DataW H), d ∈ l → ∀ n ∈ d.weights P e, n ∈ DataW.weightsAll P e l
  | [], _, h, _, _ => by cases h
  | a :: l, d, h, n, hn => by
    simp only [DataW.weightsAll, List.mem_append]
    rcases List.mem_cons.1 h with rfl | h
    · exact .inl hn
    · exact .inr (weights_all P e l d h n hn)

theorem list7 {α : Type} {l : List α} (h : l.length = 7) : ∃ a b c d e f g, l = [a, b, c, d, e, f, g] := by
  match l, h with
  | [a, b, c, d, e, f, g], _ => exact ⟨a, b, c, d, e, f, g, rfl⟩
theorem wf64 {n : Int} (h : (Lit.int .u64 n).wf = true) : 0 ≤ n ∧ n < 18446744073709551616 := by
  have := bounds_u64 h
  omega
/-- The words of a node's set are words. -/
def SeW (n : Nd) : Prop := (0 ≤ n.s0 ∧ n.s0 < 18446744073709551616) ∧ (0 ≤ n.s1 ∧ n.s1 < 18446744073709551616) ∧ (0 ≤ n.s2 ∧ n.s2 < 18446744073709551616) ∧ (0 ≤ n.s3 ∧ n.s3 < 18446744073709551616)
set_option maxRecDepth 100000 in
theorem node_in {H : Type} {enc : TypeId × Value → H} {W : World} {held : Bool} {n : Nat} {cs : List Value} {x : DataW H × List MemPlace} (h : DataW.trod enc Tryz.prog W 0 (fun _ => true) held n 70 cs = some x) :
    ∃ nd : Nd, cs = ndV nd ∧ nd.tx.size ∈ x.1.weights Tryz.prog 70 ∧ SeW nd := by
  obtain ⟨y0, y1, y2, y3, k, hx, hl, h0, h1, h2, h3⟩ := Go.Joins.trod_struct4 Tryz.underlying70 h
  rw [Tryz.cells70] at hl
  obtain ⟨a, b, c, d, e, f, g, rfl⟩ := list7 hl
  simp only [Tryz.cells3, Tryz.cells9, Tryz.cells34, List.drop_zero, List.take_succ_cons, List.take_zero, List.drop_succ_cons] at h0 h1 h2 h3
  obtain ⟨N0, e0, _, _⟩ := DataW.trod_int Tryz.underlying3 h0
  obtain ⟨N1, e1, _, _⟩ := DataW.trod_int Tryz.underlying3 h1
  obtain ⟨s, e2, hs, _⟩ := DataW.trod_string Tryz.underlying9 h2
  obtain ⟨z0, z1, z2, z3, k2, _, g0, g1, g2, g3⟩ := trod_array4 Tryz.underlying34 Tryz.cells32 h3
  obtain ⟨M0, f0, _, m0⟩ := DataW.trod_int Tryz.underlying32 g0
  obtain ⟨M1, f1, _, m1⟩ := DataW.trod_int Tryz.underlying32 g1
  obtain ⟨M2, f2, _, m2⟩ := DataW.trod_int Tryz.underlying32 g2
  obtain ⟨M3, f3, _, m3⟩ := DataW.trod_int Tryz.underlying32 g3
  cases e0; cases e1; cases e2; cases f0; cases f1; cases f2; cases f3
  refine ⟨⟨N0, N1, s, M0, M1, M2, M3⟩, rfl, ?_, wf64 m0, wf64 m1, wf64 m2, wf64 m3⟩
  rw [hx, hs]
  simp only [DataW.weights, Tryz.underlying70]
  simp only [DataW.weightsEach, DataW.weights, List.map_cons, List.mem_append, List.mem_singleton]
  right; right; left
  show s.size = s.data.toList.length
  rw [Array.length_toList]
  rfl

/-- A pattern that comes in. -/
theorem open_pat {H : Type} {enc : TypeId × Value → H} {W : World} {held : Bool} {v : Value} {d : DataW H} {p : List MemPlace} (h : DataW.Trod enc Tryz.prog W 0 (fun _ => true) held 41 v d p) (hv : ∃ a l c, v = .slice a l c) :
    ∃ A c L, v = .slice A L.length c ∧ RdN W A L ∧ (A = none → c = 0 ∧ L = []) ∧ ((∀ n ∈ d.weights Tryz.prog 41, n ≤ reachBytes) → L.length * 64 ≤ 140737488351232 ∧ ∀ n ∈ L, n.tx.size ≤ 140737488351232) ∧ ∀ n ∈ L, SeW n := by
  obtain ⟨fuel, hf⟩ := h
  obtain ⟨a0, len0, cap0, rfl⟩ := hv
  have hr : reachBytes = 140737488351232 := by decide
  rcases Go.Deep.open_slice Tryz.underlying41 hf with ⟨hc, hx⟩ | ⟨a, len, cap, m, n, D, Pl, hc, _, hl, hm, hmm, hx, hall⟩
  · have hc : [Value.slice a0 len0 cap0] = [.slice none 0 0] := hc
    cases hc
    exact ⟨none, 0, [], rfl, fun q => absurd rfl q, fun _ => ⟨rfl, rfl⟩, fun _ => ⟨by simp, fun n hn => by cases hn⟩, fun n hn => by cases hn⟩
  · have hc : [Value.slice a0 len0 cap0] = [.slice (some a) len cap] := hc
    cases hc
    simp only [if_true] at hmm
    subst hmm
    have hlm : len0 ≤ m := hl
    have each : ∀ i, i < len0 → ∃ nd : Nd, (∀ j u, (ndV nd)[j]? = some u → W.cell? (a.add (i * 7 + j)) = some u) ∧ nd.tx.size ∈ (D i).weights Tryz.prog 70 ∧ SeW nd := by
      intro i hi
      obtain ⟨cs', h1, h2⟩ := hall i (by omega)
      rw [Tryz.cells70] at h1
      obtain ⟨_, hlen, hcell⟩ := World.cells?_some h1
      obtain ⟨nd, rfl, hw⟩ := node_in h2
      refine ⟨nd, fun j u hj => ?_, hw⟩
      have hj7 : j < 7 := by
        by_cases q : j < 7
        · exact q
        · rw [List.getElem?_eq_none (by show (ndV nd).length ≤ j; show 7 ≤ j; omega)] at hj; cases hj
      have e := hcell j (by rw [show (ndV nd).length = 7 from rfl] at *; omega)
      rw [Go.Deep.add_add] at e
      rw [e]
      exact hj
    obtain ⟨F, hF⟩ : ∃ F : Nat → Nd, ∀ i, i < len0 → (∀ j u, (ndV (F i))[j]? = some u → W.cell? (a.add (i * 7 + j)) = some u) ∧ (F i).tx.size ∈ (D i).weights Tryz.prog 70 ∧ SeW (F i) :=
      ⟨fun i => if h : i < len0 then Classical.choose (each i h) else ⟨0, 0, ⟨#[]⟩, 0, 0, 0, 0⟩, fun i h => by simp only [dif_pos h]; exact Classical.choose_spec (each i h)⟩
    refine ⟨some a, m, (List.range len0).map F, by simp, fun hne => ?_, fun q => (by cases q), fun hw => ?_, fun n hn => ?_⟩
    · have h0 : 0 < len0 := by
        by_cases q : 0 < len0
        · exact q
        · have : len0 = 0 := by omega
          subst this
          exact absurd rfl hne
      obtain ⟨g, off, spot⟩ := a
      have hspot : spot = none := by simpa [Addr.add] using World.cell?_spot ((hF 0 h0).1 0 _ rfl)
      subst hspot
      refine ⟨g, off, rfl, World.block_lt_of_cell? W _ ((hF 0 h0).1 0 _ rfl), fun j nd hj => ?_⟩
      rw [List.getElem?_map] at hj
      have hj2 : j < len0 := by
        by_cases q : j < len0
        · exact q
        · rw [List.getElem?_eq_none (by simp; omega)] at hj; cases hj
      rw [List.getElem?_range hj2] at hj
      cases hj
      have key : ∀ i u, (ndV (F j))[i]? = some u → W.cell? ⟨g, off + j * 7 + i, none⟩ = some u := fun i u hu => by
        have e := (hF j hj2).1 i u hu
        rw [Addr.add_lit, ← Nat.add_assoc] at e
        exact e
      exact ⟨key 0 _ rfl, key 1 _ rfl, key 2 _ rfl, key 3 _ rfl, key 4 _ rfl, key 5 _ rfl, key 6 _ rfl⟩
    · have hd : d = .slice ((List.range len0).map D) ((List.range (m - len0)).map fun j => D (len0 + j)) := congrArg Prod.fst hx
      rw [hd] at hw
      simp only [DataW.weights, Tryz.underlying41] at hw
      refine ⟨?_, fun nd hnd => ?_⟩
      · have := hw _ (List.mem_cons_self ..)
        rw [Tryz.bytes70, hr] at this
        simp only [List.length_map, List.length_range] at this ⊢
        omega
      · obtain ⟨i, hi, rfl⟩ := List.mem_map.1 hnd
        have hi2 := List.mem_range.1 hi
        have := hw _ (List.mem_cons_of_mem _ (List.mem_append_left _ (weights_all _ 70 _ (D i) (List.mem_map.2 ⟨i, hi, rfl⟩) _ (hF i hi2).2.1)))
        rw [hr] at this
        exact this
    · obtain ⟨i, hi, rfl⟩ := List.mem_map.1 hn
      exact (hF i (List.mem_range.1 hi)).2.2
end Go.Proofs.YtbnihflihelimaaGreat.T
