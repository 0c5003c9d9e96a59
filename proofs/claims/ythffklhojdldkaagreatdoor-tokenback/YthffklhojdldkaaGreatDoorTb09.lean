/- DERIVED. Plain mathematics and walks, laid together (9). -/
import Derived.Test.YthffklhojdldkaaGreatDoorRows
import Derived.WalkKit
import Derived.Maps.AppendAt
import Derived.ProofKit
import Derived.Test.YthffklhojdldkaaGreatDoorTb08
namespace Go.Proofs.YthffklhojdldkaaGreatDoor
open Go.RowKit
/-- A slice, wherever it begins, reads as a list of tokens. -/
structure RdO (W : World) (A : Option Addr) (L : List Tk) : Prop where
  rd : L ≠ [] → ∃ g o, A = some ⟨g, o, none⟩ ∧ g < W.heap.size ∧ ∀ (k : Nat) t, L[k]? = some t → TR W g (o + k * 9) t
theorem RdT.o {W : World} {A : Option Addr} {L : List Tk} (h : RdT W A L) : RdO W A L := ⟨fun hne => by
  obtain ⟨g, e, lt, hc⟩ := h.rd hne
  exact ⟨g, 0, e, lt, fun k t hk => by rw [Nat.zero_add]; exact hc k t hk⟩⟩
theorem RdO.later {W W' : World} {A : Option Addr} {L : List Tk} (h : RdO W A L) (hb : Below W.heap.size W W') : RdO W' A L := ⟨fun hne => by
  obtain ⟨g, o, e, lt, hc⟩ := h.rd hne
  have key : ∀ j, W'.cell? ⟨g, j, none⟩ = W.cell? ⟨g, j, none⟩ := fun j => hb.cell (p := ⟨g, j, none⟩) lt
  refine ⟨g, o, e, Nat.lt_of_lt_of_le lt hb.size, fun k t hk => ?_⟩
  obtain ⟨c0, c1, c2, c3, c4, c5, c6, c7, c8⟩ := hc k t hk
  exact ⟨(key _).trans c0, (key _).trans c1, (key _).trans c2, (key _).trans c3, (key _).trans c4, (key _).trans c5, (key _).trans c6, (key _).trans c7, (key _).trans c8⟩⟩
/-- What a token may hold. -/
structure TkB (t : Tk) : Prop where
  n : t.nn < 9223372036854775808
  u0 : 0 ≤ t.s0
  u1 : t.s0 < 18446744073709551616
  u2 : 0 ≤ t.s1 ∧ t.s1 < 18446744073709551616
  u3 : 0 ≤ t.s2 ∧ t.s2 < 18446744073709551616
  u4 : 0 ≤ t.s3 ∧ t.s3 < 18446744073709551616
/-- The first token that is not right. -/
def ckGo (i : Nat) : List Tk → Nat × Int
  | [] => (0, 0)
  | t :: l => if riF t then ckGo (i + 1) l else (i, 3)
def ckR (L : List Tk) : Nat × Int := if 4096 < L.length then (0, 2) else ckGo 0 L
theorem ckGo_all (l : List Tk) : ∀ i, (ckGo i l).2 = 0 → ∀ t ∈ l, riF t = true := by
  induction l with
  | nil => intro i _ t h; cases h
  | cons a l ih =>
    intro i h t ht
    unfold ckGo at h
    split at h
    · rename_i ha
      rcases List.mem_cons.1 ht with rfl | h2
      · exact ha
      · exact ih _ h t h2
    · cases h
theorem ckGo_ok (l : List Tk) : ∀ i, (∀ t ∈ l, riF t = true) → ckGo i l = (0, 0) := by
  induction l with
  | nil => intro i _; rfl
  | cons a l ih =>
    intro i h
    unfold ckGo
    rw [if_pos (h a (by simp))]
    exact ih _ fun t ht => h t (by simp [ht])
theorem drop_at {L : List Tk} {k : Nat} (h : k < L.length) : L.drop k = L[k] :: L.drop (k + 1) := List.drop_eq_getElem_cons h
theorem ck_yes {L : List Tk} {k : Nat} {t : Tk} (h : L[k]? = some t) (hr : riF t = true) : ckGo k (L.drop k) = ckGo (k + 1) (L.drop (k + 1)) := by
  obtain ⟨hk, rfl⟩ := List.getElem?_eq_some_iff.1 h
  rw [drop_at hk, ckGo, if_pos hr]
theorem ck_no {L : List Tk} {k : Nat} {t : Tk} (h : L[k]? = some t) (hr : riF t = false) : ckGo k (L.drop k) = (k, 3) := by
  obtain ⟨hk, rfl⟩ := List.getElem?_eq_some_iff.1 h
  rw [drop_at hk, ckGo, if_neg (by simp [hr])]
theorem ret_ne {p : Nat × Int} {a b : Int} (h1 : (p.1 : Int) = a) (h2 : p.2 = b) : Ending.returned (.tuple #[.int .i64 a, .int .i64 b]) = .returned (.tuple #[.int .i64 (p.1 : Int), .int .i64 p.2]) := by rw [h1, h2]
set_option maxRecDepth 100000 in
set_option maxHeartbeats 8000000 in
theorem checkP_any (A : Option Addr) (c : Nat) (L : List Tk) (w : World) (hr : RdO w A L) (hl : L.length ≤ 140737488355328) (hb : ∀ t ∈ L, TkB t) : Calls Tryz.prog 6 #[.slice A L.length c] w fun e w' => e = .returned (.tuple #[.int .i64 ((ckR L).1 : Int), .int .i64 (ckR L).2]) ∧ Below w.heap.size w w' := by
  by_cases h1 : 4096 < L.length
  · have HE : Hid (ckR L = (0, 2)) := by show _ = _; unfold ckR; rw [if_pos h1]
    have v1 : (4096 : Int) < (L.length : Int) := by omega
    clear h1 hr hb
    go_enter Tryz.func6, Tryz.ntmps6
    go_wp2_with fail
    go_ret2
    exact ⟨ret_ne (by rw [HE.out]; rfl) (by rw [HE.out]), Below.refl _ _⟩
  · have HE : Hid (ckR L = ckGo 0 (L.drop 0)) := by show _ = _; unfold ckR; rw [if_neg h1, List.drop_zero]
    have v1 : ¬ (4096 : Int) < (L.length : Int) := by omega
    have hl2 : L.length ≤ 4096 := by omega
    have HR := (show Hid _ from hr)
    have HG := (show Hid (∀ k, k < L.length → ∃ t, L[k]? = some t ∧ TkB t ∧ L ≠ []) from fun k hk => ⟨L[k], List.getElem?_eq_getElem hk, hb _ (List.getElem_mem hk), by rintro rfl; simp at hk⟩)
    have HX := (show Hid (∀ (kd nn fr en : Int) (tx : ByteArray) (s0 s1 s2 s3 : Int), TkB ⟨kd, nn, fr, en, tx, s0, s1, s2, s3⟩ → ∀ w, Calls Tryz.prog 14 #[.agg #[.int .i64 kd, .int .i64 nn, .int .i64 fr, .int .i64 en, .string tx, .int .u64 s0, .int .u64 s1, .int .u64 s2, .int .u64 s3]] w fun e w' => e = .returned (.bool (riF ⟨kd, nn, fr, en, tx, s0, s1, s2, s3⟩)) ∧ Below w.heap.size w w') from fun kd nn fr en tx s0 s1 s2 s3 ht w => isRight_any _ _ _ _ _ _ _ _ _ ht.n w)
    clear hr hb hl h1
    go_enter Tryz.func6, Tryz.ntmps6
    go_wp2_with fail
    go_loopw [11] (fun t wr => ∃ k : Nat, k ≤ L.length ∧ t = .int .i64 k ∧ Hid (Below w.heap.size w wr) ∧ Hid (ckR L = ckGo k (L.drop k))) (fun t _ => L.length - (intOf t).toNat)
    case atStart => exact ⟨0, by omega, by go_num, Below.refl _ _, HE.out⟩
    case round =>
      obtain ⟨k, hk, rfl, HW, HI⟩ := hrel
      by_cases hlt : k < L.length
      · obtain ⟨t, ht, hb, hne⟩ := HG.out k hlt
        obtain ⟨g, o, rfl, lt, n1⟩ := HR.out.rd hne
        have key : ∀ j, wr.cell? ⟨g, j, none⟩ = w.cell? ⟨g, j, none⟩ := fun j => HW.out.cell (p := ⟨g, j, none⟩) lt
        obtain ⟨a0, a1, a2, a3, a4, a5, a6, a7, a8⟩ := n1 k _ ht
        rw [← key] at a0 a1 a2 a3 a4 a5 a6 a7 a8
        have hg1 : g < wr.heap.size := Nat.lt_of_lt_of_le lt HW.out.size
        have z0 : (0 : Int) ≤ (k : Int) := by omega
        have z1 : (k : Int) < (L.length : Int) := by omega
        obtain ⟨kd, nn, fr, en, tx, s0, s1, s2, s3⟩ := t
        dsimp only at a0 a1 a2 a3 a4 a5 a6 a7 a8
        have HY := (show Hid _ from HX.out kd nn fr en tx s0 s1 s2 s3 hb)
        have HC1 : Hid (riF ⟨kd, nn, fr, en, tx, s0, s1, s2, s3⟩ = true → ckGo k (L.drop k) = ckGo (k + 1) (L.drop (k + 1))) := ck_yes ht
        have HC2 : Hid (riF ⟨kd, nn, fr, en, tx, s0, s1, s2, s3⟩ = false → ckGo k (L.drop k) = (k, 3)) := ck_no ht
        clear ht hb hne n1 key HG HR HX HE
        generalize riF ⟨kd, nn, fr, en, tx, s0, s1, s2, s3⟩ = B at *
        go_wp2_with fail
        refine (HY.out _).mono ?_
        rintro e w1 ⟨rfl, hb⟩
        have HW1 := (show Hid (Below w.heap.size w w1) from (HW.out.alloc HW.out.size _).trans (hb.mono (HW.out.alloc HW.out.size _).size))
        clear hb HY HW a0 a1 a2 a3 a4 a5 a6 a7 a8
        cases B
        · have HF : Hid (ckR L = (k, 3)) := HI.out.trans (HC2.out rfl)
          clear HC1 HC2 HI
          go_wp2_with fail
          go_ret2
          exact ⟨ret_ne (by rw [HF.out]) (by rw [HF.out]), HW1.out⟩
        · have HF : Hid (ckR L = ckGo (k + 1) (L.drop (k + 1))) := HI.out.trans (HC1.out rfl)
          clear HC1 HC2 HI
          go_wp2_with fail
          go_roundw
          case rel => exact ⟨k + 1, by omega, by go_num, HW1.out, HF.out⟩
          case measure => simp [intOf]; omega
      · obtain rfl : k = L.length := by omega
        have HF : Hid (ckR L = (0, 0)) := HI.out.trans (by rw [List.drop_length]; rfl)
        clear HG HR HX HE HI
        go_wp2_with fail
        go_ret2
        exact ⟨ret_ne (by rw [HF.out]; rfl) (by rw [HF.out]), HW.out⟩
end Go.Proofs.YthffklhojdldkaaGreatDoor

namespace Go.Proofs.YthffklhojdldkaaGreatDoor
open Go.RowKit
/-- The text of one span. -/
def spT (lo hi : Nat) : List UInt8 := if hi - lo = 0 then itm lo else if hi - lo = 1 then itm lo ++ itm hi else itm lo ++ [45] ++ itm hi
theorem catL (a b : List UInt8) : (⟨a.toArray⟩ : ByteArray) ++ ⟨b.toArray⟩ = ⟨(a ++ b).toArray⟩ := by apply ByteArray.ext; simp
/-- The text of one byte, as a value. -/
def itB (b : Nat) : ByteArray := ⟨(itm b).toArray⟩
theorem itB_size (b : Nat) : (itB b).size ≤ 4 := by
  show (itm b).toArray.size ≤ 4
  unfold itm
  repeat' split
  all_goals simp
theorem box2 (w : World) (a b : Value) (t : TypeId) : (w.alloc (.cells #[a, b] t)).cell? ⟨w.heap.size, 0, none⟩ = some a ∧ (w.alloc (.cells #[a, b] t)).cell? ⟨w.heap.size, 1, none⟩ = some b := by
  constructor <;> simp [go_sem]

set_option maxRecDepth 100000 in
set_option maxHeartbeats 1000000 in
theorem showSpan_any (lo hi : Nat) (hle : lo ≤ hi) (hh : hi < 256) (w : World) :
    Calls Tryz.prog 69 #[.agg #[.int .i64 lo, .int .i64 hi]] w fun e w' => e = .returned (.string ⟨(spT lo hi).toArray⟩) ∧ Below w.heap.size w w' := by
  obtain ⟨c0, c1⟩ := box2 w (.int .i64 lo) (.int .i64 hi) 93
  have C0 := (show Hid _ from c0)
  have C1 := (show Hid _ from c1)
  have HI : Hid (∀ b : Nat, b < 256 → ∀ w, Calls Tryz.prog 93 #[.int .i64 (b : Int)] w fun e w' => e = .returned (.string (itB b)) ∧ Below w.heap.size w w') := fun b hb w => item_any b hb w
  have z1 := itB_size lo
  have z2 := itB_size hi
  have HB := (show Hid _ from below1 w (.cells #[.int .i64 lo, .int .i64 hi] 93))
  by_cases h0 : hi - lo = 0
  · have e0 : ((hi : Int) - (lo : Int) == 0) = true := beq_iff_eq.2 (by omega)
    have HE : Hid (spT lo hi = itm lo) := (by show spT lo hi = _; unfold spT; rw [if_pos h0])
    go_enter Tryz.func69, Tryz.ntmps69
    go_wp2_with fail
    refine (HI.out lo (by omega) _).mono ?_
    rintro e w1 ⟨rfl, hb⟩
    have HR := (show Hid _ from HB.out.trans (hb.mono (by simp)))
    clear hb
    go_wp2
    go_ret
    exact ⟨by rw [HE.out]; rfl, HR.out⟩
  · have e0 : ((hi : Int) - (lo : Int) == 0) = false := beq_eq_false_iff_ne.2 (by omega)
    have HR : Hid (Below (w.heap.size + 1) (w.alloc (.cells #[.int .i64 lo, .int .i64 hi] 93)) (w.alloc (.cells #[.int .i64 lo, .int .i64 hi] 93))) := Below.refl _ _
    by_cases h1 : hi - lo = 1
    · have e1 : ((hi : Int) - (lo : Int) == 1) = true := beq_iff_eq.2 (by omega)
      have HE : Hid (spT lo hi = itm lo ++ itm hi) := (by show spT lo hi = _; unfold spT; rw [if_neg h0, if_pos h1])
      go_enter Tryz.func69, Tryz.ntmps69
      go_wp2
      go_region_with ((go_at_call 93; refine (HI.out _ (by omega) _).mono ?_; rintro e w1 ⟨rfl, hb⟩; have hz1 := hb.size; (try simp at hz1); have hr2 := (show Below (w.heap.size + 1) (w.alloc (.cells #[.int .i64 lo, .int .i64 hi] 93)) w1 from (by first | exact HR.out.trans (hb.mono (by omega)) | exact HR.out.drew.trans (hb.mono (by simp)))); replace HR := (show Hid _ from hr2); have d0 := (HR.out.cell (p := ⟨w.heap.size, 0, none⟩) (by simp)).trans C0.out; have d1 := (HR.out.cell (p := ⟨w.heap.size, 1, none⟩) (by simp)).trans C1.out))
      all_goals
        go_wp2
        go_ret
        exact ⟨by rw [HE.out]; exact ret_str (catL (itm lo) (itm hi)), HB.out.trans (HR.out.mono (by omega))⟩
    · have e1 : ((hi : Int) - (lo : Int) == 1) = false := beq_eq_false_iff_ne.2 (by omega)
      have HE : Hid (spT lo hi = itm lo ++ [45] ++ itm hi) := (by show spT lo hi = _; unfold spT; rw [if_neg h0, if_neg h1])
      go_enter Tryz.func69, Tryz.ntmps69
      go_wp2
      go_region_with ((go_at_call 93; refine (HI.out _ (by omega) _).mono ?_; rintro e w1 ⟨rfl, hb⟩; have hz1 := hb.size; (try simp at hz1); have hr2 := (show Below (w.heap.size + 1) (w.alloc (.cells #[.int .i64 lo, .int .i64 hi] 93)) w1 from (by first | exact HR.out.trans (hb.mono (by omega)) | exact HR.out.drew.trans (hb.mono (by simp)))); replace HR := (show Hid _ from hr2); have d0 := (HR.out.cell (p := ⟨w.heap.size, 0, none⟩) (by simp)).trans C0.out; have d1 := (HR.out.cell (p := ⟨w.heap.size, 1, none⟩) (by simp)).trans C1.out))
      all_goals
        go_wp2
        go_ret
        exact ⟨by rw [HE.out]; exact ret_str (by exact (congrArg (· ++ itB hi) (catL (itm lo) [45])).trans (catL (itm lo ++ [45]) (itm hi))), HB.out.trans (HR.out.mono (by omega))⟩
end Go.Proofs.YthffklhojdldkaaGreatDoor

namespace Go.Proofs.YthffklhojdldkaaGreatDoor
open Go.RowKit
def stO (kd : Int) : List (Int × List UInt8) → List UInt8 → List UInt8
  | [], a => a
  | p :: l, a => stO kd l (if p.1 = kd then p.2 else a)
def sgOf (kd : Int) : List UInt8 := stO kd sgTab []
theorem sgOf_sgn : ∀ k : Nat, k < 31 → (k ≠ 13 ∧ k ≠ 14 ∧ k ≠ 15 ∧ k ≠ 21 ∧ k ≠ 29 ∧ k ≠ 30) → sgOf (k : Int) = sgn k := by decide
set_option maxRecDepth 100000 in
set_option maxHeartbeats 8000000 in
theorem signOf_any (kd : Int) (w : World) (hg : SG w) : Calls Tryz.prog 40 #[.int .i64 kd] w fun e w' => e = .returned (.string ⟨(sgOf kd).toArray⟩) ∧ Below w.heap.size w w' := by
  have HI := (show Hid (∀ (k : Nat) p, sgTab[k]? = some p → ∀ W : World, (Instr.index 97 (.agg tabL.toArray) (.int .i64 (k : Int))).run Tryz.prog W = .ok (.agg #[.int .i64 p.1, .string ⟨p.2.toArray⟩]) W) from idx_tab)
  have hR : w.rangeAt 0 0 tabL := hg.rng
  have HL := (show Hid (∃ l, (⟨#[]⟩ : ByteArray) = ⟨l.toArray⟩ ∧ stO kd (sgTab.drop 0) l = sgOf kd) from ⟨[], rfl, rfl⟩)
  clear hg
  generalize htv : tabL.toArray = TV at HI
  go_enter Tryz.func40, Tryz.ntmps40
  go_wp2_with (refine wpList_load_mid rfl 97 _ rfl 0 0 rfl tabL _ hR Tryz.underlying97 rfl (by kernel_rfl) ?_)
  clear hR htv
  go_loopw [3, 7] (fun s t wr => ∃ k : Nat, ∃ A : ByteArray, k ≤ 24 ∧ s = .string A ∧ t = .int .i64 k ∧ Hid (Below w.heap.size w wr) ∧ Hid (∃ l, A = ⟨l.toArray⟩ ∧ stO kd (sgTab.drop k) l = sgOf kd)) (fun _ t _ => 24 - (intOf t).toNat)
  case atStart => exact ⟨0, _, by omega, rfl, by go_num, Below.refl _ _, HL⟩
  case round =>
    obtain ⟨k, A, hk, rfl, rfl, HW, HD⟩ := hrel
    clear HL
    by_cases hk4 : k < 24
    · obtain ⟨p, hp⟩ : ∃ p, sgTab[k]? = some p := ⟨_, List.getElem?_eq_getElem (by show k < 24; exact hk4)⟩
      have hix := HI.out k p hp
      have z1 : (k : Int) < 24 := by omega
      have hd : sgTab.drop k = p :: sgTab.drop (k + 1) := by
        obtain ⟨h1, h2⟩ := List.getElem?_eq_some_iff.1 hp
        rw [List.drop_eq_getElem_cons h1, h2]
      by_cases hf : p.1 = kd
      · have v : (p.1 == kd) = true := by rw [hf]; exact beq_self_eq_true _
        have HE : Hid (∃ l, (⟨p.2.toArray⟩ : ByteArray) = ⟨l.toArray⟩ ∧ stO kd (sgTab.drop (k + 1)) l = sgOf kd) := ⟨p.2, rfl, by
          obtain ⟨l, _, h⟩ := HD.out
          rw [hd, stO, if_pos hf] at h
          exact h⟩
        clear hd hp HD hf
        go_wp2_with fail
        go_roundw
        case rel => exact ⟨k + 1, _, by omega, rfl, by go_num, HW.out.alloc HW.out.size _, HE⟩
        case measure => simp [intOf]; omega
      · have v : (p.1 == kd) = false := beq_eq_false_iff_ne.2 hf
        have HE : Hid (∃ l, A = ⟨l.toArray⟩ ∧ stO kd (sgTab.drop (k + 1)) l = sgOf kd) := by
          obtain ⟨l, h0, h⟩ := HD.out
          rw [hd, stO, if_neg hf] at h
          exact ⟨l, h0, h⟩
        clear hd hp HD hf
        go_wp2_with fail
        go_roundw
        case rel => exact ⟨k + 1, _, by omega, rfl, by go_num, HW.out.alloc HW.out.size _, HE⟩
        case measure => simp [intOf]; omega
    · obtain rfl : k = 24 := by omega
      have HE : Hid (A = ⟨(sgOf kd).toArray⟩) := by
        obtain ⟨l, h0, h⟩ := HD.out
        show A = _
        rw [h0, ← h]
        rfl
      clear HI HD
      go_wp2_with fail
      go_ret
      exact ⟨ret_str HE.out, HW.out⟩
def gnm (s : ByteArray) : ByteArray := if s.size = 0 then ⟨#[]⟩ else s ++ ⟨#[58]⟩
set_option maxRecDepth 100000 in
set_option maxHeartbeats 8000000 in
theorem groupName_any (s : ByteArray) (hs : s.size ≤ 140737488355328) (w : World) : Calls Tryz.prog 41 #[.string s] w fun e w' => e = .returned (.string (gnm s)) ∧ w' = w := by
  by_cases h0 : 0 < s.size
  · have e0 := ne_emp h0
    have HE : Hid (gnm s = s ++ ⟨#[58]⟩) := by show _ = _; unfold gnm; rw [if_neg (by omega)]
    go_enter Tryz.func41, Tryz.ntmps41
    go_wp2_with fail
    go_ret
    exact ⟨ret_str HE.out.symm, rfl⟩
  · obtain rfl := emp_of h0
    clear h0
    go_enter Tryz.func41, Tryz.ntmps41
    go_wp2_with fail
    go_ret
    exact ⟨rfl, rfl⟩
end Go.Proofs.YthffklhojdldkaaGreatDoor

namespace Go.Proofs.YthffklhojdldkaaGreatDoor
open Go.RowKit
theorem not0_any (w : World) :
    Calls Tryz.prog 89 #[.agg #[.int .u64 0, .int .u64 0, .int .u64 0, .int .u64 0]] w fun e w' => e = .returned (sv (~~~ 0#256)) ∧ Below w.heap.size w w' := by
  have h := not_any 0#256 w
  rw [sv, wd_zero, wd_zero, wd_zero, wd_zero] at h
  exact h

set_option maxRecDepth 100000 in
set_option maxHeartbeats 1000000 in
theorem full_any (x : BitVec 256) (w : World) :
    Calls Tryz.prog 67 #[sv x] w fun e w' => e = .returned (.bool (x == ~~~ 0#256)) ∧ Below w.heap.size w w' := by
  have heq := eq24
  have HR := (show Hid _ from below1 w (c4 x))
  have HX := (show Hid _ from Holds.new w x)
  generalize hq : ~~~ 0#256 = q
  have n0 : ∀ w, Calls Tryz.prog 89 #[.agg #[.int .u64 0, .int .u64 0, .int .u64 0, .int .u64 0]] w fun e w' => e = .returned (sv q) ∧ Below w.heap.size w w' := by rw [← hq]; exact not0_any
  have N0 := (show Hid _ from n0)
  clear n0 hq
  go_enter Tryz.func67, Tryz.ntmps67
  go_wp2
  go_region_with ((go_at_call 89; refine (N0.out _).mono ?_; rintro e w1 ⟨rfl, hb⟩; obtain ⟨l0, c0, c1, c2, c3, f0, f1, f2, f3⟩ := (by first | exact HX.out.drew.below hb (by simp) | exact HX.out.below hb (by simp)); replace HR := (show Hid _ from (by first | exact HR.out.drew.trans (hb.mono (by simp)) | exact HR.out.trans (hb.mono (by simp))))))
  all_goals
    go_wp2
    go_ret
    exact ⟨rfl, HR.out⟩
end Go.Proofs.YthffklhojdldkaaGreatDoor

namespace Go.Proofs.YthffklhojdldkaaGreatDoor
open Go.RowKit
theorem spL_ok (bs : List Int) (p : Int × Int) (h : p ∈ spL bs) : p.1 ≤ p.2 := by
  have key : ∀ n (bs : List Int), bs.length = n → ∀ p ∈ spL bs, p.1 ≤ p.2 := fun n => by
    induction n with
    | zero => intro bs h p hp; rw [List.eq_nil_of_length_eq_zero h] at hp; simp [spL] at hp
    | succ n ih =>
      intro bs h p hp
      rcases snoc_cases bs with rfl | ⟨m, b, rfl⟩
      · simp at h
      · have ihm := ih m (by simp at h; exact h)
        rw [spL_snoc] at hp
        rcases snoc_cases (spL m) with hs | ⟨l, ⟨lo, hi⟩, hs⟩
        · rw [hs] at hp; simp [spStep] at hp; subst hp; exact Int.le_refl _
        · rw [hs] at hp ihm
          by_cases e : hi + 1 = b
          · rw [spStep_hit _ _ _ _ e] at hp
            rcases List.mem_append.1 hp with h1 | h1
            · exact ihm p (List.mem_append_left _ h1)
            · simp at h1; subst h1
              have := ihm (lo, hi) (by simp)
              simp at this ⊢; omega
          · rw [spStep_miss _ _ _ _ e] at hp
            rcases List.mem_append.1 hp with h1 | h1
            · exact ihm p h1
            · simp at h1; subst h1; exact Int.le_refl _
  exact key _ bs rfl p h

theorem bys_byte (x : BitVec 256) (b : Int) (h : b ∈ bys x) : 0 ≤ b ∧ b < 256 := bysTo_bd x 256 b h
theorem spL_from (bs : List Int) (p : Int × Int) (h : p ∈ spL bs) : p.1 ∈ bs ∧ p.2 ∈ bs := by
  have key : ∀ n (bs : List Int), bs.length = n → ∀ p ∈ spL bs, p.1 ∈ bs ∧ p.2 ∈ bs := fun n => by
    induction n with
    | zero => intro bs h p hp; rw [List.eq_nil_of_length_eq_zero h] at hp; simp [spL] at hp
    | succ n ih =>
      intro bs h p hp
      rcases snoc_cases bs with rfl | ⟨m, b, rfl⟩
      · simp at h
      · have ihm := ih m (by simp at h; exact h)
        rw [spL_snoc] at hp
        rcases snoc_cases (spL m) with hs | ⟨l, ⟨lo, hi⟩, hs⟩
        · rw [hs] at hp; simp [spStep] at hp; subst hp; simp
        · rw [hs] at hp ihm
          have inl : ∀ q ∈ l ++ [(lo, hi)], q.1 ∈ m ++ [b] ∧ q.2 ∈ m ++ [b] := fun q hq => ⟨List.mem_append_left _ (ihm q hq).1, List.mem_append_left _ (ihm q hq).2⟩
          by_cases e : hi + 1 = b
          · rw [spStep_hit _ _ _ _ e] at hp
            rcases List.mem_append.1 hp with h1 | h1
            · exact inl p (List.mem_append_left _ h1)
            · simp at h1; subst h1
              exact ⟨(inl (lo, hi) (by simp)).1, by simp⟩
          · rw [spStep_miss _ _ _ _ e] at hp
            rcases List.mem_append.1 hp with h1 | h1
            · exact inl p h1
            · simp at h1; subst h1; simp
  exact key _ bs rfl p h
theorem spL_len256 (x : BitVec 256) : (spL (bys x)).length ≤ 256 := Nat.le_trans (spL_len _) (by rw [bys_len]; exact cnt_le x)
theorem spL_byte (x : BitVec 256) (p : Int × Int) (h : p ∈ spL (bys x)) : 0 ≤ p.1 ∧ p.1 ≤ p.2 ∧ p.2 < 256 :=
  ⟨(bys_byte x _ (spL_from _ p h).1).1, spL_ok _ p h, (bys_byte x _ (spL_from _ p h).2).2⟩

/-- The members of a class text, behind one another. -/
def mems (l : List (Int × Int)) : List UInt8 := l.flatMap fun p => spT p.1.toNat p.2.toNat
theorem mems_snoc (l : List (Int × Int)) (p : Int × Int) : mems (l ++ [p]) = mems l ++ spT p.1.toNat p.2.toNat := by unfold mems; rw [List.flatMap_append]; simp
def fulB (x : BitVec 256) : Bool := x == ~~~ 0#256
/-- The class text of a set. -/
def shT (x : BitVec 256) : List UInt8 := if fulB x then [91, 94, 93] else 91 :: mems (spL (bys x)) ++ [93]
theorem fulB_any (x : BitVec 256) (w : World) : Calls Tryz.prog 67 #[sv x] w fun e w' => e = .returned (.bool (fulB x)) ∧ Below w.heap.size w w' := full_any x w
theorem itm_len (b : Nat) : (itm b).length ≤ 4 := by
  unfold itm
  repeat' split
  all_goals simp
theorem spT_len (lo hi : Nat) : (spT lo hi).length ≤ 9 := by
  have h1 := itm_len lo
  have h2 := itm_len hi
  unfold spT
  repeat' split
  · omega
  · rw [List.length_append]; omega
  · rw [List.length_append, List.length_append]; simp only [List.length_singleton]; omega
theorem mems_cons (p : Int × Int) (l : List (Int × Int)) : mems (p :: l) = spT p.1.toNat p.2.toNat ++ mems l := by unfold mems; rw [List.flatMap_cons]
theorem mems_len (l : List (Int × Int)) : (mems l).length ≤ 9 * l.length := by
  induction l with
  | nil => simp [mems]
  | cons p l ih => have := spT_len p.1.toNat p.2.toNat; rw [mems_cons, List.length_append, List.length_cons]; omega

theorem bld_below {w w' : World} {b : Nat} {bs : List Value} (h : Lib.IsBuilder 50 5 b b bs w) (hb : Below w.heap.size w w') : Lib.IsBuilder 50 5 b b bs w' := by
  have key : ∀ p, Lib.BuilderAt 50 5 b b p bs w → Lib.BuilderAt 50 5 b b p bs w' := fun p hp => by
    have hlt := hp.lt
    obtain ⟨hB, v, hbk, hown, hne⟩ := hp
    exact ⟨hB, v, (hb.block b hlt).trans hbk, own_below hown hb (by omega), hne⟩
  exact h.imp (key _) (key _)
theorem own_keepT {w w' : World} {b base : Nat} {v : Value} {n : Nat} {xs : List Value} (h : w.ownsRow base 93 2 v n xs) (hk : KeepT b w w') (hb : b < base) : w'.ownsRow base 93 2 v n xs := by
  refine ⟨h.1, h.2.imp id ?_⟩
  rintro ⟨g, cap, cur, h1, h2, h3, h4⟩
  have hlt : g < w.heap.size := (h.lt g (by rw [h1]; rfl)).2
  exact ⟨g, cap, cur, h1, h2, (hk.block g hlt (by omega) (fun c fr e => by rw [h3] at e; cases e)).trans h3, h4⟩

theorem alloc_size (w : World) (o : Obj) : (w.alloc o).heap.size = w.heap.size + 1 := by simp
theorem own_below' {w w' : World} {base e size : Nat} {v : Value} {n : Nat} {xs : List Value} (h : w.ownsRow base e size v n xs) (hb : Below w.heap.size w w') : w'.ownsRow base e size v n xs := by
  refine h.kept (row := none) ⟨hb.os, hb.tape, hb.output, hb.size, fun k hk _ => hb.block k hk⟩ ?_
  cases h2 : v.ownBlock
  · exact .inl rfl
  · exact .inr (by simp)
theorem bld_more {w : World} {b : Nat} {c : UInt8} {m l : List UInt8} (h : Lib.IsBuilder 50 5 b b (Lib.byteCells (c :: m) ++ Lib.strCells ⟨l.toArray⟩) w) : Lib.IsBuilder 50 5 b b (Lib.byteCells (c :: (m ++ l))) w := by
  rw [Lib.strCells_eq, ← Lib.byteCells_append] at h; exact h
theorem bld_more1 {w : World} {b : Nat} {m : List UInt8} (h : Lib.IsBuilder 50 5 b b (Lib.byteCells m ++ [.int .u8 93]) w) : Lib.IsBuilder 50 5 b b (Lib.byteCells (m ++ [93])) w := by
  rw [Lib.byteCells_append]; exact h
theorem len_str {SL : List (Int × Int)} {k lo hi : Nat} (h : SL.length ≤ 256) : (Lib.byteCells (91 :: mems (SL.take k))).length + (⟨(spT lo hi).toArray⟩ : ByteArray).size ≤ 140737488355328 := by
  rw [Lib.byteCells_length, List.length_cons]
  have h1 := mems_len (SL.take k)
  have h2 := spT_len lo hi
  have h3 : (SL.take k).length ≤ 256 := by rw [List.length_take]; omega
  show _ + (spT lo hi).toArray.size ≤ _
  rw [List.size_toArray]
  omega
theorem len_end {SL : List (Int × Int)} (h : SL.length ≤ 256) : (Lib.byteCells (91 :: mems SL)).length + 1 ≤ 140737488355328 := by
  rw [Lib.byteCells_length, List.length_cons]
  have h1 := mems_len SL
  omega
theorem step_at (SL : List (Int × Int)) (k : Nat) (h : k < SL.length) (hok : ∀ p ∈ SL, 0 ≤ p.1 ∧ p.1 ≤ p.2 ∧ p.2 < 256) :
    ∃ lo hi : Nat, lo ≤ hi ∧ hi < 256 ∧ (SL[k]).1 = (lo : Int) ∧ (SL[k]).2 = (hi : Int) ∧ mems (SL.take (k + 1)) = mems (SL.take k) ++ spT lo hi := by
  obtain ⟨h1, h2, h3⟩ := hok _ (List.getElem_mem h)
  refine ⟨(SL[k]).1.toNat, (SL[k]).2.toNat, by omega, by omega, by omega, by omega, ?_⟩
  rw [← mems_snoc, List.take_append_getElem h]
theorem read_at {w : World} {base : Nat} {g : Option Addr} {cap k : Nat} {SL : List (Int × Int)} (h : w.ownsRow base 93 2 (.slice g SL.length cap) SL.length (spc SL)) (hk : k < SL.length) :
    ∃ g', g = some ⟨g', 0, none⟩ ∧ w.cell? ⟨g', k * 2, none⟩ = some (.int .i64 (SL[k]).1) ∧ w.cell? ⟨g', k * 2 + 1, none⟩ = some (.int .i64 (SL[k]).2) := by
  rcases h.2 with ⟨hv, h0⟩ | ⟨g', cap', cur, hv, hr⟩
  · omega
  · cases hv
    exact ⟨g', rfl, (h.cellAt (k * 2) (by omega)).trans (spc_lo SL k hk), (h.cellAt (k * 2 + 1) (by omega)).trans (spc_hi SL k hk)⟩

set_option maxRecDepth 100000 in
set_option maxHeartbeats 2000000 in
theorem show_any (x : BitVec 256) (w : World) :
    Calls Tryz.prog 37 #[sv x] w fun e w' => e = .returned (.string ⟨(shT x).toArray⟩) ∧ Below w.heap.size w w' := by
  have HX := (show Hid _ from Holds.new w x)
  have HB := (show Hid _ from below1 w (c4 x))
  cases hf : fulB x
  · have HE : Hid (shT x = 91 :: mems (spL (bys x)) ++ [93]) := (by show shT x = _; unfold shT; rw [hf]; rfl)
    go_enter Tryz.func37, Tryz.ntmps37
    go_wp2_with fail
    refine (fulB_any x _).mono ?_
    rintro e w1 ⟨rfl, hb⟩
    have HX1 := (show Hid _ from HX.out.below hb (by simp))
    have HB1 := (show Hid _ from HB.out.trans (hb.mono (by simp)))
    have hs1 : w.heap.size < w1.heap.size := HX1.out.lt
    have hbl := (show Hid _ from Lib.fresh_isBuilder 50 5 w1)
    clear hb HX HB
    go_wp2_with fail
    refine (writeByte_any w1.heap.size [] 91 _ hbl.out (by simp)).mono ?_
    rintro e w2 ⟨rfl, hb, hb2, hk2⟩
    have HL2 := (show Hid _ from hb)
    have hs2 : w1.heap.size < w2.heap.size := by have := hb2.size; simp at this; omega
    have HB2 := (show Hid _ from (HB1.out.alloc (by omega) _).trans (hb2.mono (by omega)))
    have HX2 := (show Hid _ from (HX1.out.alloc _).below hb2 (by omega))
    clear hb hb2 hk2 hbl HB1 HX1
    obtain ⟨x0, x1, x2, x3⟩ := (⟨HX2.out.c0, HX2.out.c1, HX2.out.c2, HX2.out.c3⟩ : _ ∧ _ ∧ _ ∧ _)
    go_wp2_with fail
    refine (spans_any x _).mono ?_
    rintro e w3 ⟨v, rfl, hro, hnil, hb3⟩
    have HL3 := (show Hid _ from bld_below HL2.out hb3)
    have HB3 := (show Hid _ from HB2.out.trans (hb3.mono (by omega)))
    have hs3 := hb3.size
    have HR := (show Hid _ from hro)
    have hsl : ∃ g cap, v = .slice g (spL (bys x)).length cap := by
      rcases hro.2 with ⟨hv, h0⟩ | ⟨g, cap, cur, hv, _⟩
      · exact ⟨_, _, by rw [h0]; exact hv⟩
      · exact ⟨_, _, hv⟩
    obtain ⟨g, cap, rfl⟩ := hsl
    have HZ : Hid ((spL (bys x)).length ≤ 256) := (show (spL (bys x)).length ≤ 256 from spL_len256 x)
    have HOK : Hid (∀ p ∈ spL (bys x), 0 ≤ p.1 ∧ p.1 ≤ p.2 ∧ p.2 < 256) := (fun p hp => spL_byte x p hp)
    clear hro hnil hb3 HX2 x0 x1 x2 x3
    have HME : Hid (shT x = 91 :: mems (spL (bys x)) ++ [93]) := HE
    clear HE
    generalize spL (bys x) = SL at *
    go_wp2
    go_loopw [12] (fun t wr => ∃ k : Nat, k ≤ SL.length ∧ t = .int .i64 k ∧ Hid (Lib.IsBuilder 50 5 w1.heap.size w1.heap.size (Lib.byteCells (91 :: mems (SL.take k))) wr ∧ wr.ownsRow (w2.heap.size + 1) 93 2 (.slice g SL.length cap) SL.length (spc SL) ∧ Below w.heap.size w wr ∧ w3.heap.size ≤ wr.heap.size)) (fun t _ => SL.length - (intOf t).toNat)
    case atStart => exact ⟨0, by omega, rfl, HL3.out, HR.out, HB3.out, Nat.le_refl _⟩
    case round =>
      obtain ⟨k, hk, rfl, HI⟩ := hrel
      have hz := HZ.out
      by_cases hlt : k < SL.length
      · have hk0 : (0 : Int) ≤ (k : Int) := by omega
        have hk1 : (k : Int) < (SL.length : Int) := by omega
        obtain ⟨lo, hi, hle, hh, e1, e2, hmem⟩ := step_at SL k hlt HOK.out
        obtain ⟨g', rfl, c0, c1⟩ := read_at HI.out.2.1 hlt
        rw [e1] at c0
        rw [e2] at c1
        have hkl : k * 2 + 1 < 2 * SL.length := by omega
        go_wp2_with fail
        refine (showSpan_any lo hi hle hh _).mono ?_
        rintro e w4 ⟨rfl, hb4⟩
        have hs4 := hb4.size
        simp only [alloc_size] at hs4
        have ha4 : Below wr.heap.size wr w4 := ((Below.refl wr.heap.size wr).alloc (Nat.le_refl _) _).trans (hb4.mono (by simp))
        have hL4 := bld_below HI.out.1 ha4
        have hO4 := own_below' HI.out.2.1 ha4
        have hB4 := HI.out.2.2.1.trans (ha4.mono HI.out.2.2.1.size)
        have hz4 := HI.out.2.2.2
        have HL4 := (show Hid _ from hL4)
        have HJ := (show Hid _ from (⟨hO4, hB4, (by omega : w3.heap.size ≤ w4.heap.size)⟩ : _ ∧ _ ∧ _))
        clear hb4 ha4 hL4 hO4 hB4 hz4 HI c0 c1
        go_wp2_with fail
        refine (writeString_any w1.heap.size _ _ _ HL4.out ?_).mono ?_
        · exact len_str HZ.out
        rintro e w5 ⟨rfl, hb, hb5, hk5⟩
        have HL5 := (show Hid _ from hb)
        have HK := (show Hid _ from (⟨own_keepT HJ.out.1 hk5 (by omega), HJ.out.2.1.trans (hb5.mono (by omega)), Nat.le_trans HJ.out.2.2 hk5.size⟩ : _ ∧ _ ∧ _))
        clear hb hb5 hk5 HL4 HJ
        go_wp2
        go_roundw
        case rel => exact ⟨k + 1, by omega, by go_num, by rw [hmem]; exact bld_more HL5.out, HK.out.1, HK.out.2.1, HK.out.2.2⟩
        case measure => simp [intOf]; omega
      · obtain rfl : k = SL.length := by omega
        rw [List.take_length] at HI
        go_wp2_with fail
        refine (writeByte_any w1.heap.size _ 93 _ HI.out.1 ?_).mono ?_
        · exact len_end HZ.out
        rintro e w5 ⟨rfl, hb, hb5, hk5⟩
        have HL5 := (show Hid (Lib.IsBuilder 50 5 w1.heap.size w1.heap.size (Lib.byteCells (shT x)) w5) from (by rw [HME.out]; exact bld_more1 hb))
        have HB5 := (show Hid _ from HI.out.2.2.1.trans (hb5.mono (by omega)))
        have hs5 := hk5.size
        have hs6 := HI.out.2.2.2
        clear hb hb5 hk5
        go_wp2_with fail
        refine (Tryz.Builder_String_any w1.heap.size w1.heap.size (shT x) _ HL5.out (by omega)).mono ?_
        rintro e w6 ⟨rfl, hb6⟩
        have HB6 := (show Hid _ from HB5.out.trans (hb6.mono (by omega)))
        clear hb6
        go_wp2
        go_ret
        exact ⟨rfl, HB6.out⟩
  · have HE : Hid (shT x = [91, 94, 93]) := (by show shT x = _; unfold shT; rw [hf]; rfl)
    go_enter Tryz.func37, Tryz.ntmps37
    go_wp2_with fail
    refine (fulB_any x _).mono ?_
    rintro e w1 ⟨rfl, hb⟩
    have HB1 := (show Hid _ from HB.out.trans (hb.mono (by simp)))
    clear hb
    go_wp2
    go_ret
    exact ⟨by rw [HE.out]; rfl, HB1.out⟩
end Go.Proofs.YthffklhojdldkaaGreatDoor

namespace Go.Proofs.YthffklhojdldkaaGreatDoor.Q
open Go.RowKit
theorem ret_bool {a b : Bool} (h : a = b) : Ending.returned (.bool a) = .returned (.bool b) := by rw [h]

/-- What checkPlace answers. -/
def cpE (s : ByteArray) (i : Int) : Int := if 65536 < s.size then 2 else if i < 0 ∨ (s.size : Int) < i then 1 else 0

set_option maxRecDepth 100000 in
set_option maxHeartbeats 1000000 in
theorem checkPlace_any (s : ByteArray) (i : Int) (w : World) :
    Calls Tryz.prog 102 #[.string s, .int .i64 i] w fun e w' => e = .returned (.int .i64 (cpE s i)) ∧ w' = w := by
  by_cases h : 65536 < s.size
  · have HE : Hid (cpE s i = 2) := (by show cpE s i = 2; unfold cpE; rw [if_pos h])
    have h1 : (65536 : Int) < (s.size : Int) := by omega
    go_enter Tryz.func102, Tryz.ntmps102
    go_wp2
    go_ret
    exact ⟨by rw [HE.out]; rfl, rfl⟩
  · have h1 : ¬ (65536 : Int) < (s.size : Int) := by omega
    by_cases h0 : i < 0
    · have HE : Hid (cpE s i = 1) := (by show cpE s i = 1; unfold cpE; rw [if_neg h, if_pos (.inl h0)])
      go_enter Tryz.func102, Tryz.ntmps102
      go_wp2
      go_ret
      exact ⟨by rw [HE.out]; rfl, rfl⟩
    · by_cases h2 : (s.size : Int) < i
      · have HE : Hid (cpE s i = 1) := (by show cpE s i = 1; unfold cpE; rw [if_neg h, if_pos (.inr h2)])
        go_enter Tryz.func102, Tryz.ntmps102
        go_wp2
        go_ret
        exact ⟨by rw [HE.out]; rfl, rfl⟩
      · have HE : Hid (cpE s i = 0) := (by show cpE s i = 0; unfold cpE; rw [if_neg h, if_neg (by omega)])
        go_enter Tryz.func102, Tryz.ntmps102
        go_wp2
        go_ret
        exact ⟨by rw [HE.out]; rfl, rfl⟩

def mkB (c : Int) : Bool := c == 39 || c == 34
set_option maxRecDepth 100000 in
set_option maxHeartbeats 1000000 in
theorem isMark_any (c : Int) (w : World) :
    Calls Tryz.prog 103 #[.int .u8 c] w fun e w' => e = .returned (.bool (mkB c)) ∧ w' = w := by
  by_cases h : c = 39
  · have HE : Hid (mkB c = true) := (by show mkB c = true; unfold mkB; rw [beq_iff_eq.2 h]; rfl)
    have e1 : (c == 39) = true := beq_iff_eq.2 h
    clear h
    go_enter Tryz.func103, Tryz.ntmps103
    go_wp2
    go_ret
    exact ⟨by rw [HE.out]; rfl, rfl⟩
  · have e1 : (c == 39) = false := beq_eq_false_iff_ne.2 h
    have HE : Hid (mkB c = (c == 34)) := (by show mkB c = (c == 34); unfold mkB; rw [e1]; rfl)
    clear h
    go_enter Tryz.func103, Tryz.ntmps103
    go_wp2
    go_ret
    exact ⟨by rw [HE.out]; rfl, rfl⟩

/-- The digits of 16. -/
abbrev digs : ByteArray := ⟨#[48, 49, 50, 51, 52, 53, 54, 55, 56, 57, 97, 98, 99, 100, 101, 102]⟩
theorem idx_hex (c : UInt8) : Lib.indexByte digs.data.toList c = hexV (c.toNat : Int) := by
  have key : ∀ n, n < 256 → Lib.indexByte digs.data.toList (UInt8.ofNat n) = hexV (n : Int) := by decide +kernel
  have := key c.toNat c.toNat_lt
  rw [UInt8.ofNat_toNat] at this
  exact this
theorem index_hex (c : UInt8) (w : World) : Calls Tryz.prog 101 #[.string digs, .int .u8 (c.toNat : Int)] w fun e w' => e = .returned (.int .i64 (hexV (c.toNat : Int))) ∧ w' = w := by
  refine (Tryz.strings_IndexByte digs (c.toNat : Int) w).mono ?_
  rintro e w' ⟨rfl, rfl⟩
  refine ⟨?_, rfl⟩
  rw [← idx_hex]
  simp

theorem ret_es {b b' : Int} {n : Nat} {n' : Int} (hb : b' = b) (hn : n' = n) : Ending.returned (.tuple #[.int .u8 b', .int .i64 n', .int .i64 0]) = .returned (esV (some (b, n))) := by rw [hb, hn]; rfl
theorem ret_by {b b' : Int} {n : Nat} {n' : Int} (hb : b' = b) (hn : n' = n) : Ending.returned (.tuple #[.int .u8 b', .int .i64 n', .int .i64 0]) = .returned (byV (.inl (b, n))) := by rw [hb, hn]; rfl

set_option maxRecDepth 100000 in
set_option maxHeartbeats 1000000 in
theorem readHex_any (s : ByteArray) (i : Nat) (hi : i + 1 < s.size) (hs : s.size ≤ 140737488355328) (w : World) :
    Calls Tryz.prog 137 #[.string s, .int .i64 i] w fun e w' => e = .returned (esV (rdHex s i)) ∧ w' = w := by
  by_cases h : i + 3 < s.size
  · have h2 : i + 2 < s.size := by omega
    have hb1 := hexV_bd (s[i + 2].toNat : Int)
    have hb2 := hexV_bd (s[i + 3].toNat : Int)
    have HE : Hid (rdHex s i = if 0 ≤ hexV (s[i + 2].toNat : Int) ∧ 0 ≤ hexV (s[i + 3].toNat : Int) then some (16 * hexV (s[i + 2].toNat : Int) + hexV (s[i + 3].toNat : Int), i + 4) else none) := (by show rdHex s i = _; unfold rdHex; rw [chr_in h, chr_in h2])
    have HI : Hid (∀ w, Calls Tryz.prog 101 #[.string digs, .int .u8 (s[i + 2].toNat : Int)] w fun e w' => e = .returned (.int .i64 (hexV (s[i + 2].toNat : Int))) ∧ w' = w) := fun w => index_hex _ w
    have HJ : Hid (∀ w, Calls Tryz.prog 101 #[.string digs, .int .u8 (s[i + 3].toNat : Int)] w fun e w' => e = .returned (.int .i64 (hexV (s[i + 3].toNat : Int))) ∧ w' = w) := fun w => index_hex _ w
    go_enter Tryz.func137, Tryz.ntmps137
    go_wp2_with fail
    refine (HI.out _).mono ?_
    rintro e w' ⟨rfl, rfl⟩
    clear HI
    go_wp2_with fail
    refine (HJ.out _).mono ?_
    rintro e w' ⟨rfl, rfl⟩
    clear HJ
    generalize hexV (s[i + 2].toNat : Int) = a at *
    generalize hexV (s[i + 3].toNat : Int) = b at *
    by_cases ha : 0 ≤ a
    · by_cases hb : 0 ≤ b
      · have hw8 : IntKind.u8.wrap (16 * a + b) = 16 * a + b := by rw [IntKind.wrap_u8']; omega
        go_wp2
        go_ret3
        exact ⟨by rw [HE.out, if_pos ⟨ha, hb⟩]; exact ret_es (by omega) (by omega), rfl⟩
      · go_wp2
        go_ret3
        exact ⟨by rw [HE.out, if_neg (fun h => by omega)]; rfl, rfl⟩
    · go_wp2
      go_ret3
      exact ⟨by rw [HE.out, if_neg (fun h => by omega)]; rfl, rfl⟩
  · have h1 : ¬ (i : Int) + 3 < (s.size : Int) := by omega
    have HE : Hid (rdHex s i = none) := (by show rdHex s i = none; unfold rdHex; rw [chr_out h]; rw [if_neg]; rintro ⟨_, h2⟩; simp [hexV] at h2)
    go_enter Tryz.func137, Tryz.ntmps137
    go_wp2
    go_ret3
    exact ⟨by rw [HE.out]; rfl, rfl⟩

set_option maxRecDepth 100000 in
set_option maxHeartbeats 2000000 in
theorem readEsc_any (s : ByteArray) (i : Nat) (hi : i < s.size) (hs : s.size ≤ 140737488355328) (w : World) :
    Calls Tryz.prog 134 #[.string s, .int .i64 i] w fun e w' => e = .returned (esV (rdEsc s i)) ∧ w' = w := by
  by_cases h : i + 1 < s.size
  · have HX : Hid (∀ w, Calls Tryz.prog 137 #[.string s, .int .i64 i] w fun e w' => e = .returned (esV (rdHex s i)) ∧ w' = w) := fun w => readHex_any s i h hs w
    have hb : (0 : Int) ≤ (s[i + 1].toNat : Int) ∧ (s[i + 1].toNat : Int) ≤ 255 := by have := s[i + 1].toNat_lt; omega
    have HE : Hid (rdEsc s i = if (s[i + 1].toNat : Int) = 110 then some (10, i + 2) else if (s[i + 1].toNat : Int) = 114 then some (13, i + 2) else if (s[i + 1].toNat : Int) = 116 then some (9, i + 2) else
  if (s[i + 1].toNat : Int) = 92 ∨ (s[i + 1].toNat : Int) = 39 ∨ (s[i + 1].toNat : Int) = 34 then some ((s[i + 1].toNat : Int), i + 2) else if (s[i + 1].toNat : Int) = 120 then rdHex s i else none) := (by show rdEsc s i = _; unfold rdEsc; rw [chr_in h])
    by_cases h110 : (s[i + 1].toNat : Int) = 110
    · have HF := (show Hid (rdEsc s i = some (10, i + 2)) from (by show rdEsc s i = _; rw [HE.out]; rw [if_pos h110]))
      clear HE HX
      have e110 : ((s[i + 1].toNat : Int) == 110) = true := beq_iff_eq.2 h110
      clear h110
      go_enter Tryz.func134, Tryz.ntmps134
      go_wp2
      go_ret3
      exact ⟨by rw [HF.out]; exact ret_es rfl (by omega), rfl⟩
    have e110 : ((s[i + 1].toNat : Int) == 110) = false := beq_eq_false_iff_ne.2 h110
    by_cases h114 : (s[i + 1].toNat : Int) = 114
    · have HF := (show Hid (rdEsc s i = some (13, i + 2)) from (by show rdEsc s i = _; rw [HE.out]; rw [if_neg h110, if_pos h114]))
      clear HE HX
      have e114 : ((s[i + 1].toNat : Int) == 114) = true := beq_iff_eq.2 h114
      clear h114
      go_enter Tryz.func134, Tryz.ntmps134
      go_wp2
      go_ret3
      exact ⟨by rw [HF.out]; exact ret_es rfl (by omega), rfl⟩
    have e114 : ((s[i + 1].toNat : Int) == 114) = false := beq_eq_false_iff_ne.2 h114
    by_cases h116 : (s[i + 1].toNat : Int) = 116
    · have HF := (show Hid (rdEsc s i = some (9, i + 2)) from (by show rdEsc s i = _; rw [HE.out]; rw [if_neg h110, if_neg h114, if_pos h116]))
      clear HE HX
      have e116 : ((s[i + 1].toNat : Int) == 116) = true := beq_iff_eq.2 h116
      clear h116
      go_enter Tryz.func134, Tryz.ntmps134
      go_wp2
      go_ret3
      exact ⟨by rw [HF.out]; exact ret_es rfl (by omega), rfl⟩
    have e116 : ((s[i + 1].toNat : Int) == 116) = false := beq_eq_false_iff_ne.2 h116
    by_cases hg : (s[i + 1].toNat : Int) = 92 ∨ (s[i + 1].toNat : Int) = 39 ∨ (s[i + 1].toNat : Int) = 34
    · have HF := (show Hid (rdEsc s i = some ((s[i + 1].toNat : Int), i + 2)) from (by show rdEsc s i = _; rw [HE.out]; rw [if_neg h110, if_neg h114, if_neg h116, if_pos hg]))
      clear HE HX h110 h114 h116
      rcases hg with hg | hg | hg
      · have e92 : ((s[i + 1].toNat : Int) == 92) = true := beq_iff_eq.2 hg
        clear hg
        go_enter Tryz.func134, Tryz.ntmps134
        go_wp2
        go_ret3
        exact ⟨by rw [HF.out]; exact ret_es rfl (by omega), rfl⟩
      · have e92 : ((s[i + 1].toNat : Int) == 92) = false := beq_eq_false_iff_ne.2 (by omega)
        have e39 : ((s[i + 1].toNat : Int) == 39) = true := beq_iff_eq.2 hg
        clear hg
        go_enter Tryz.func134, Tryz.ntmps134
        go_wp2
        go_ret3
        exact ⟨by rw [HF.out]; exact ret_es rfl (by omega), rfl⟩
      · have e92 : ((s[i + 1].toNat : Int) == 92) = false := beq_eq_false_iff_ne.2 (by omega)
        have e39 : ((s[i + 1].toNat : Int) == 39) = false := beq_eq_false_iff_ne.2 (by omega)
        have e34 : ((s[i + 1].toNat : Int) == 34) = true := beq_iff_eq.2 hg
        clear hg
        go_enter Tryz.func134, Tryz.ntmps134
        go_wp2
        go_ret3
        exact ⟨by rw [HF.out]; exact ret_es rfl (by omega), rfl⟩
    have e92 : ((s[i + 1].toNat : Int) == 92) = false := beq_eq_false_iff_ne.2 (by omega)
    have e39 : ((s[i + 1].toNat : Int) == 39) = false := beq_eq_false_iff_ne.2 (by omega)
    have e34 : ((s[i + 1].toNat : Int) == 34) = false := beq_eq_false_iff_ne.2 (by omega)
    by_cases h120 : (s[i + 1].toNat : Int) = 120
    · have HF := (show Hid (rdEsc s i = rdHex s i) from (by show rdEsc s i = _; rw [HE.out]; rw [if_neg h110, if_neg h114, if_neg h116, if_neg hg, if_pos h120]))
      have e120 : ((s[i + 1].toNat : Int) == 120) = true := beq_iff_eq.2 h120
      clear HE h110 h114 h116 h120 hg
      go_enter Tryz.func134, Tryz.ntmps134
      go_wp2_with fail
      refine (HX.out _).mono ?_
      rintro e w' ⟨rfl, rfl⟩
      cases hq : rdHex s i with
      | none =>
        rw [hq] at HF
        clear HX hq
        dsimp only [esV]
        go_wp2
        go_ret3
        exact ⟨by rw [HF.out]; rfl, rfl⟩
      | some q =>
        obtain ⟨qb, qn⟩ := q
        rw [hq] at HF
        clear HX hq
        dsimp only [esV]
        go_wp2
        go_ret3
        exact ⟨by rw [HF.out]; rfl, rfl⟩
    have e120 : ((s[i + 1].toNat : Int) == 120) = false := beq_eq_false_iff_ne.2 h120
    have HF := (show Hid (rdEsc s i = none) from (by show rdEsc s i = _; rw [HE.out]; rw [if_neg h110, if_neg h114, if_neg h116, if_neg hg, if_neg h120]))
    clear HE HX h110 h114 h116 h120 hg
    go_enter Tryz.func134, Tryz.ntmps134
    go_wp2
    go_ret3
    exact ⟨by rw [HF.out]; rfl, rfl⟩
  · have HE : Hid (rdEsc s i = none) := (by show rdEsc s i = none; unfold rdEsc; rw [chr_out h]; rfl)
    have h1 : ¬ (i : Int) + 1 < (s.size : Int) := by omega
    go_enter Tryz.func134, Tryz.ntmps134
    go_wp2
    go_ret3
    exact ⟨by rw [HE.out]; rfl, rfl⟩

set_option maxRecDepth 100000 in
set_option maxHeartbeats 2000000 in
theorem readByte_any (s : ByteArray) (i : Nat) (h : i < s.size) (hs : s.size ≤ 140737488355328) (w : World) :
    Calls Tryz.prog 124 #[.string s, .int .i64 i] w fun e w' => e = .returned (byV (rdByte s i)) ∧ w' = w := by
  have HX : Hid (∀ w, Calls Tryz.prog 134 #[.string s, .int .i64 i] w fun e w' => e = .returned (esV (rdEsc s i)) ∧ w' = w) := fun w => readEsc_any s i h hs w
  have hb : (0 : Int) ≤ (s[i].toNat : Int) ∧ (s[i].toNat : Int) ≤ 255 := by have := s[i].toNat_lt; omega
  have HE : Hid (rdByte s i = if (s[i].toNat : Int) = 92 then (match rdEsc s i with | none => .inr (i, 21) | some p => .inl p) else if (s[i].toNat : Int) < 32 ∨ (s[i].toNat : Int) = 127 then .inr (i, 22) else .inl ((s[i].toNat : Int), i + 1)) := (by show rdByte s i = _; unfold rdByte; rw [chr_in h]; rfl)
  by_cases h92 : (s[i].toNat : Int) = 92
  · have e92 : ((s[i].toNat : Int) == 92) = true := beq_iff_eq.2 h92
    have HF := (show Hid (rdByte s i = (match rdEsc s i with | none => .inr (i, 21) | some p => .inl p)) from (by show rdByte s i = _; rw [HE.out, if_pos h92]))
    clear HE h92
    go_enter Tryz.func124, Tryz.ntmps124
    go_wp2_with fail
    refine (HX.out _).mono ?_
    rintro e w' ⟨rfl, rfl⟩
    cases hq : rdEsc s i with
    | none =>
      rw [hq] at HF
      clear HX hq
      dsimp only [esV]
      go_wp2
      go_ret3
      exact ⟨by rw [HF.out]; rfl, rfl⟩
    | some q =>
      obtain ⟨qb, qn⟩ := q
      rw [hq] at HF
      clear HX hq
      dsimp only [esV]
      go_wp2
      go_ret3
      exact ⟨by rw [HF.out]; rfl, rfl⟩
  · have e92 : ((s[i].toNat : Int) == 92) = false := beq_eq_false_iff_ne.2 h92
    clear HX
    by_cases h32 : (s[i].toNat : Int) < 32
    · have HF := (show Hid (rdByte s i = .inr (i, 22)) from (by show rdByte s i = _; rw [HE.out, if_neg h92, if_pos (.inl h32)]))
      clear HE h92
      go_enter Tryz.func124, Tryz.ntmps124
      go_wp2
      go_ret3
      exact ⟨by rw [HF.out]; rfl, rfl⟩
    by_cases h127 : (s[i].toNat : Int) = 127
    · have HF := (show Hid (rdByte s i = .inr (i, 22)) from (by show rdByte s i = _; rw [HE.out, if_neg h92, if_pos (.inr h127)]))
      have e127 : ((s[i].toNat : Int) == 127) = true := beq_iff_eq.2 h127
      clear HE h92 h127
      go_enter Tryz.func124, Tryz.ntmps124
      go_wp2
      go_ret3
      exact ⟨by rw [HF.out]; rfl, rfl⟩
    · have HF := (show Hid (rdByte s i = .inl ((s[i].toNat : Int), i + 1)) from (by show rdByte s i = _; rw [HE.out, if_neg h92, if_neg (by omega)]))
      have e127 : ((s[i].toNat : Int) == 127) = false := beq_eq_false_iff_ne.2 h127
      clear HE h92 h127
      go_enter Tryz.func124, Tryz.ntmps124
      go_wp2
      go_ret3
      exact ⟨by rw [HF.out]; exact ret_by rfl (by omega), rfl⟩
end Go.Proofs.YthffklhojdldkaaGreatDoor.Q

namespace Go.Proofs.YthffklhojdldkaaGreatDoor.Q
open Go.RowKit
theorem Tryz.info5 : (Tryz.prog.info? 5).map (fun i => (i.zero, i.size, i.bytes)) = some (some (.int .u8 0), 1, 1) := by kernel_rfl

/-- A row that the call owns, behind a call that turned nothing of what was there. -/
theorem own_below {w w' : World} {base e size : Nat} {v : Value} {n : Nat} {xs : List Value} (h : w.ownsRow base e size v n xs) (hb : Below w.heap.size w w') : w'.ownsRow base e size v n xs := by
  refine h.kept (row := none) ⟨hb.os, hb.tape, hb.output, hb.size, fun k hk _ => hb.block k hk⟩ ?_
  cases h2 : v.ownBlock
  · exact .inl rfl
  · exact .inr (by simp)

/-- The text of a row of bytes that the call owns. -/
theorem text_own {w : World} {base : Nat} {v : Value} {l : List Int} (h : w.ownsRow base 5 1 v l.length (l.map (Value.int .u8))) :
    (convert 48 9 v).run Tryz.prog w = .ok (.string (asText l)) w := by
  have hc := h
  obtain ⟨hlen, h2⟩ := h
  rcases h2 with ⟨rfl, hn⟩ | ⟨g, cap, cur, rfl, _⟩
  · obtain rfl : l = [] := List.eq_nil_of_length_eq_zero hn
    rw [run_convert_bytes_string w 48 9 5 _ _ _ Tryz.underlying48 Tryz.underlying5 Tryz.underlying9]
    rfl
  · rw [run_convert_bytes_string w 48 9 5 _ _ _ Tryz.underlying48 Tryz.underlying5 Tryz.underlying9]
    refine run_bytesToString w ⟨g, 0, none⟩ l.length cap l ?_
    have := run_loadCells_list (P := Tryz.prog) (w := w) ⟨g, 0, none⟩ (l.map (Value.int .u8)) (hc.cells rfl)
    rwa [List.length_map] at this

/-- A box with a fault. -/
structure FHolds (w : World) (b : Nat) (p q : Int) : Prop where
  lt : b < w.heap.size
  c0 : w.cell? ⟨b, 0, none⟩ = some (.int .i64 p)
  c1 : w.cell? ⟨b, 1, none⟩ = some (.int .i64 q)
  f0 : w.frozen? ⟨b, 0, none⟩ = false
  f1 : w.frozen? ⟨b, 1, none⟩ = false
theorem FHolds.below {B : Nat} {w w' : World} {b : Nat} {p q : Int} (h : FHolds w b p q) (hb : Below B w w') (hB : b < B) : FHolds w' b p q :=
  ⟨Nat.lt_of_lt_of_le h.lt hb.size, (hb.cell (p := ⟨b, 0, none⟩) hB).trans h.c0, (hb.cell (p := ⟨b, 1, none⟩) hB).trans h.c1, (hb.frozen (p := ⟨b, 0, none⟩) hB).trans h.f0, (hb.frozen (p := ⟨b, 1, none⟩) hB).trans h.f1⟩
theorem FHolds.new (w : World) (p q : Int) : FHolds (w.alloc (.cells #[.int .i64 p, .int .i64 q] 37)) w.heap.size p q := by
  constructor <;> simp [go_sem]
theorem FHolds.grown {w w' : World} {b : Nat} {p q : Int} {row : Option Nat} (h : FHolds w b p q) (hg : w.grownBy w' row) (hne : row = some b → False) : FHolds w' b p q := by
  have e := hg.block b h.lt (fun e => hne e.symm)
  exact ⟨Nat.lt_of_lt_of_le h.lt hg.size, (World.cell?_of_block (a := ⟨b, 0, none⟩) e).trans h.c0, (World.cell?_of_block (a := ⟨b, 1, none⟩) e).trans h.c1, 
    (World.frozen?_of_block (a := ⟨b, 0, none⟩) e).trans h.f0, (World.frozen?_of_block (a := ⟨b, 1, none⟩) e).trans h.f1⟩
theorem FHolds.alloc {w : World} {b : Nat} {p q : Int} (h : FHolds w b p q) (o : Obj) : FHolds (w.alloc o) b p q :=
  h.below (B := w.heap.size) ((Below.refl _ _).alloc (Nat.le_refl _) _) h.lt
theorem FHolds.put {w : World} {b : Nat} {p q : Int} (h : FHolds w b p q) (p' q' : Int) : FHolds ((w.setCell ⟨b, 0, none⟩ (.int .i64 p')).setCell ⟨b, 1, none⟩ (.int .i64 q')) b p' q' := by
  obtain ⟨lt, c0, c1, f0, f1⟩ := h
  constructor <;> simp [go_sem, *]
theorem FHolds.put_other {w : World} {b c : Nat} {p q : Int} (h : FHolds w c p q) (hne : c ≠ b) (u v : Value) : FHolds ((w.setCell ⟨b, 0, none⟩ u).setCell ⟨b, 1, none⟩ v) c p q := by
  obtain ⟨lt, c0, c1, f0, f1⟩ := h
  constructor <;> simp [go_sem, *]
theorem putF_below {B : Nat} {w wr : World} {b : Nat} (hb : Below B w wr) (h : B ≤ b) (u v : Value) : Below B w ((wr.setCell ⟨b, 0, none⟩ u).setCell ⟨b, 1, none⟩ v) :=
  (hb.setCell (p := ⟨b, 0, none⟩) h _).setCell (p := ⟨b, 1, none⟩) h _

/-- What holds in the loop of a reading. -/
structure AtL (w wr : World) (v : Value) (l : List Int) : Prop where
  f : FHolds wr w.heap.size 0 0
  o : wr.ownsRow (w.heap.size + 1) 5 1 v l.length (l.map (Value.int .u8))
  b : Below w.heap.size w wr

set_option maxRecDepth 100000 in
set_option maxHeartbeats 4000000 in
theorem readBehind_any (s : ByteArray) (i : Nat) (m : Int) (hm : 0 ≤ m) (hi : i ≤ s.size) (hs : s.size ≤ 65536) (w : World) :
    Calls Tryz.prog 104 #[.string s, .int .i64 i, .int .u8 m] w fun e w' => e = .returned (cuV (rdBody s m (s.size + 1) i [])) ∧ Below w.heap.size w w' := by
  obtain ⟨i0, hinf, hz0, hz1, hz2⟩ := info_parts Tryz.info5
  generalize hR : rdBody s m (s.size + 1) i [] = R
  have HR := (show Hid _ from hR)
  clear hR
  have HF := (show Hid _ from FHolds.new w 0 0)
  have HB := (show Hid _ from (Below.refl w.heap.size w).alloc (Nat.le_refl _) (.cells #[.int .i64 0, .int .i64 0] 37))
  go_enter Tryz.func104, Tryz.ntmps104
  go_wp2_with fail
  go_loopw [1, 9] (fun t v wr => ∃ k : Nat, ∃ f : Nat, ∃ l : List Int, k ≤ s.size ∧ t = .int .i64 k ∧ l.length ≤ k ∧ Hid (s.size + 1 ≤ f + k) ∧ Hid (rdBody s m f k l = R) ∧ Hid (AtL w wr v l)) (fun t _ _ => s.size - (intOf t).toNat)
  case atStart => exact ⟨i, s.size + 1, [], hi, by go_num, by simp, show _ ≤ _ by omega, HR, ⟨HF.out, World.ownsRow_nil _ _ _ _, HB.out⟩⟩
  case round =>
    obtain ⟨k, f, l, hk, rfl, hl, hf, hr, ha⟩ := hrel
    obtain ⟨g, rfl⟩ : ∃ g, f = g + 1 := ⟨f - 1, by have h := hf.out; omega⟩
    clear HR HF HB
    have hlt : w.heap.size < wr.heap.size := ha.out.f.lt
    by_cases hks : k < s.size
    · have hb := chr_bd hks
      have HC := (show Hid _ from chr_in hks)
      by_cases hm1 : chr s k = m
      · have hr' := (show Hid (R = .inl (l, k + 1)) from (hr.out.symm.trans (rdBody_end hm1)))
        have em : ((s[k].toNat : Int) == m) = true := beq_iff_eq.2 (by rw [← HC.out]; exact hm1)
        have ht := text_own ha.out.o
        clear hr hf hm1 hb HC
        obtain ⟨_, c0, c1, f0, f1⟩ := ha.out.f
        go_wp2_with fail
        rw [hr'.out]
        refine bodyPost_ret (v := cuV (.inl (l, k + 1))) (by simp [results, Tryz.results104, go_sem, cuV, *]) rfl ⟨rfl, ?_⟩
        exact putF_below ha.out.b (Nat.le_refl _) _ _
      · have em : ((s[k].toNat : Int) == m) = false := beq_eq_false_iff_ne.2 (by rw [← HC.out]; exact hm1)
        have HRB : Hid (∀ w, Calls Tryz.prog 124 #[.string s, .int .i64 k] w fun e w' => e = .returned (byV (rdByte s k)) ∧ w' = w) := fun w => readByte_any s k hks (by omega) w
        cases hq : rdByte s k with
        | inr pq =>
          obtain ⟨a, c⟩ := pq
          obtain ⟨rfl, hc⟩ := rdByte_err hq
          have hr' := (show Hid (R = .inr (k, c)) from (hr.out.symm.trans (rdBody_err hm1 hks hq)))
          have hc0 : (c != 0) = true := bne_iff_ne.2 (by omega)
          rw [hq] at HRB
          dsimp only [byV] at HRB
          clear hr hf hm1 hb HC hq hc
          obtain ⟨_, c0, c1, f0, f1⟩ := ha.out.f
          go_wp2_with fail
          refine (HRB.out _).mono ?_
          rintro e w1 ⟨rfl, rfl⟩
          go_wp2_with fail
          rw [hr'.out]
          refine bodyPost_ret (v := cuV (.inr (k, c))) (by simp [results, Tryz.results104, go_sem, cuV, *]) rfl ⟨rfl, ?_⟩
          exact putF_below ha.out.b (Nat.le_refl _) _ _
        | inl p =>
          obtain ⟨b, n⟩ := p
          obtain ⟨b0, b1, b2, b3⟩ := rdByte_bd hq
          have hr' := (show Hid (rdBody s m g n (l ++ [b]) = R) from ((rdBody_step hm1 hks hq).symm.trans hr.out))
          have hf' := (show Hid (s.size + 1 ≤ g + n) from (by have h := hf.out; show _ ≤ _; omega))
          rw [hq] at HRB
          dsimp only [byV] at HRB
          clear hr hf hm1 hb HC hq
          have hO1 := ha.out.o
          go_wp2_with fail
          refine (HRB.out _).mono ?_
          rintro e w1 ⟨rfl, rfl⟩
          go_wp2_with (at_builtin; refine wpList_append_own _ rfl _ _ 48 rfl (w.heap.size + 1) 5 i0 (.int .u8 0) 1 1 Tryz.underlying48 hinf hz0 hz1 hz2 rfl (by decide) _ _ _ rfl (hO1.alloc _) ⟨w1.heap.size, 0, none⟩ 1 1 [.int .u8 b] rfl rfl (cell_one_new _ _ _) ?c2 ?c3 ?c4 ?c5 ?_)
          case c2 => intro u hu; simp at hu; subst hu; rfl
          case c3 => unfold maxLen; omega
          case c4 => omega
          case c5 => simp; omega
          intro v' w2 hown' hgrow _
          have hle := fun j e => (hO1.lt j e).1
          have HA2 := (show Hid (AtL w w2 v' (l ++ [b])) from (by
            refine ⟨(ha.out.f.alloc (.cells #[.int .u8 b] 5)).grown hgrow (fun e => by have := hle _ e; omega), ?_, (ha.out.b.alloc (by omega) (.cells #[.int .u8 b] 5)).grown hgrow (by simp; omega) (fun j e => by have := hle j e; omega)⟩
            rw [List.length_append, List.map_append]
            exact hown'))
          clear hO1 hown' hgrow hle ha
          go_wp2
          go_roundw
          case rel => exact ⟨n, g, l ++ [b], b3, rfl, by simp; omega, hf', hr', HA2⟩
          case measure => simp [intOf]; omega
    · have hr' := (show Hid (R = .inr (k, 22)) from (hr.out.symm.trans ((rdBody_out (by omega) hm).trans (by rw [show k = s.size from by omega]))))
      clear hr hf
      obtain ⟨_, c0, c1, f0, f1⟩ := ha.out.f
      go_wp2_with fail
      rw [hr'.out]
      refine bodyPost_ret (v := cuV (.inr (k, 22))) (by simp [results, Tryz.results104, go_sem, cuV, *]) rfl ⟨rfl, ?_⟩
      exact putF_below ha.out.b (Nat.le_refl _) _ _
end Go.Proofs.YthffklhojdldkaaGreatDoor.Q
