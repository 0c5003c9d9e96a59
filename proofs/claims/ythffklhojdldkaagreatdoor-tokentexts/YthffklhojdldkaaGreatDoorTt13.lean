/- DERIVED. Plain mathematics and walks, laid together (13). -/
import Derived.Lib.AppendStr
import Derived.Lib.AppendIntMem
import Derived.Laws.AppendOwnNone
import Derived.Deep.AppendLies
import Derived.Deep.SlicePairs
import Derived.Lib.SmallJoins
import Derived.Laws.IdiomArrays
import Derived.SizedLaws
import Derived.OpenShut
import Derived.ShutString
import Derived.ChangeOld
import Derived.Test.YthffklhojdldkaaGreatDoorCards
import Derived.Test.YthffklhojdldkaaGreatDoorTie
import Derived.WalkKit
import Derived.ProofKit
import Derived.ChangeSame
import Derived.FnData
import Derived.Deep.DeepHandedRow
import Derived.Lib.LaidTab
import Derived.Test.YthffklhojdldkaaGreatDoorTt12
namespace Go.Proofs.YthffklhojdldkaaGreatDoor
open Go.RowKit
/-- What is told of the first bytes. -/
def liT (s : ByteArray) (k : Nat) : List Int := ((Q.byl s).take k).flatMap Q.shB
theorem liT_succ (s : ByteArray) (k : Nat) (h : k < s.size) : liT s (k + 1) = liT s k ++ Q.shB (s[k].toNat : Int) := by
  have h2 := Q.qTo_succ s k h
  unfold Q.qTo at h2
  rw [List.cons_append] at h2
  exact (List.cons.inj h2).2
theorem liT_len (s : ByteArray) (k : Nat) : (liT s k).length ≤ 4 * k := by
  have h := (Q.qTo_len s k).1
  unfold Q.qTo at h
  rw [List.length_cons] at h
  unfold liT
  omega
theorem liT_all (s : ByteArray) (k : Nat) (h : s.size ≤ k) : (⟨#[39]⟩ : ByteArray) ++ asText (liT s k) ++ ⟨#[39]⟩ = Q.asText (Q.qT s) := by
  rw [← Q.qTo_all s k h, ← q_text, Q.asText_eq, Q.asText_eq]
  unfold Q.qTo liT
  apply ByteArray.ext
  simp
theorem own_slice {w : World} {base e sz : Nat} {v : Value} {n : Nat} {xs : List Value} (h : w.ownsRow base e sz v n xs) : ∃ ao cap, v = .slice ao n cap := by
  rcases h.2 with ⟨rfl, rfl⟩ | ⟨g, cap, cur, rfl, _⟩
  · exact ⟨_, _, rfl⟩
  · exact ⟨_, _, rfl⟩
theorem hexD_q : ∀ m : Fin 16, ((hexD m.val).toNat : Int) = Q.hexD (m.val : Int) := by decide
theorem cells2 (a b : UInt8) : Lib.strCells ⟨#[a, b]⟩ = [.int .u8 (a.toNat : Int), .int .u8 (b.toNat : Int)] := by simp [Lib.strCells]
theorem cells4 (a b c d : UInt8) : Lib.strCells ⟨#[a, b, c, d]⟩ = [.int .u8 (a.toNat : Int), .int .u8 (b.toNat : Int), .int .u8 (c.toNat : Int), .int .u8 (d.toNat : Int)] := by simp [Lib.strCells]
set_option maxRecDepth 100000 in
set_option maxHeartbeats 16000000 in
theorem literal_any (s : ByteArray) (hs : s.size ≤ 255) (w : World) : Calls Tryz.prog 42 #[.string s] w fun e w' => e = .returned (.string (Q.asText (Q.qT s))) ∧ Below w.heap.size w w' := by
  obtain ⟨i0, hinf, hz0, hz1, hz2⟩ := info_parts Tryz.info5
  have HO : Hid (w.ownsRow w.heap.size 5 1 (.slice none 0 0) (liT s 0).length ((liT s 0).map (Value.int .u8))) := World.ownsRow_nil _ _ _ _
  go_enter Tryz.func42, Tryz.ntmps42
  go_wp2_with fail
  go_loopw [3, 4] (fun v t wr => ∃ k : Nat, k ≤ s.size ∧ t = .int .i64 k ∧ Hid (wr.ownsRow w.heap.size 5 1 v (liT s k).length ((liT s k).map (Value.int .u8)) ∧ Below w.heap.size w wr)) (fun _ t _ => s.size - (intOf t).toNat)
  case atStart => exact ⟨0, by omega, by go_num, HO.out, Below.refl _ _⟩
  case round =>
    obtain ⟨k, hk, rfl, HI⟩ := hrel
    clear HO
    have hql := liT_len s k
    obtain ⟨ao, cap, hv⟩ := own_slice HI.out.1
    subst hv
    by_cases hlt : k < s.size
    · have HQ := (show Hid _ from liT_succ s k hlt)
      have hbb : (s[k].toNat : Int) ≤ 255 := by have := s[k].toNat_lt; omega
      have hwr := HI.out.2.size
      by_cases h10 : (s[k].toNat : Int) = 10
      · have HS := (show Hid (liT s (k + 1) = liT s k ++ [92, 110]) from (by show _ = _; rw [HQ.out]; unfold Q.shB; rw [if_pos h10]))
        have e10 : ((s[k].toNat : Int) == 10) = true := beq_iff_eq.2 h10
        clear HQ h10
        go_wp2_with (at_builtin; refine Lib.wpList_append_own_string _ rfl _ _ 48 9 rfl w.heap.size 5 i0 Tryz.underlying48 Tryz.underlying9 hinf hz0 hz1 hz2 _ _ _ rfl HI.out.1 ⟨#[92, 110]⟩ rfl ?c3 ?c4 ?c5 ?_)
        case c3 => unfold maxLen; show _ + 2 ≤ _; omega
        case c4 => show _ + 2 ≤ _; omega
        case c5 => exact HI.out.2.size
        intro v' w2 hown' hgrow _
        have HI2 := (show Hid (w2.ownsRow w.heap.size 5 1 v' (liT s (k + 1)).length ((liT s (k + 1)).map (Value.int .u8)) ∧ Below w.heap.size w w2) from (by
          refine ⟨?_, HI.out.2.grown hgrow HI.out.2.size (fun j e => (HI.out.1.lt j e).1)⟩
          rw [HS.out, List.length_append, List.map_append]
          rw [cells2] at hown'
          exact hown'))
        clear hown' hgrow
        go_wp2
        go_roundw
        case rel => exact ⟨k + 1, by omega, by go_num, HI2⟩
        case measure => simp [intOf]; omega
      have e10 : ((s[k].toNat : Int) == 10) = false := beq_eq_false_iff_ne.2 h10
      by_cases h13 : (s[k].toNat : Int) = 13
      · have HS := (show Hid (liT s (k + 1) = liT s k ++ [92, 114]) from (by show _ = _; rw [HQ.out]; unfold Q.shB; rw [if_neg h10, if_pos h13]))
        have e13 : ((s[k].toNat : Int) == 13) = true := beq_iff_eq.2 h13
        clear HQ h10 h13
        go_wp2_with (at_builtin; refine Lib.wpList_append_own_string _ rfl _ _ 48 9 rfl w.heap.size 5 i0 Tryz.underlying48 Tryz.underlying9 hinf hz0 hz1 hz2 _ _ _ rfl HI.out.1 ⟨#[92, 114]⟩ rfl ?c3 ?c4 ?c5 ?_)
        case c3 => unfold maxLen; show _ + 2 ≤ _; omega
        case c4 => show _ + 2 ≤ _; omega
        case c5 => exact HI.out.2.size
        intro v' w2 hown' hgrow _
        have HI2 := (show Hid (w2.ownsRow w.heap.size 5 1 v' (liT s (k + 1)).length ((liT s (k + 1)).map (Value.int .u8)) ∧ Below w.heap.size w w2) from (by
          refine ⟨?_, HI.out.2.grown hgrow HI.out.2.size (fun j e => (HI.out.1.lt j e).1)⟩
          rw [HS.out, List.length_append, List.map_append]
          rw [cells2] at hown'
          exact hown'))
        clear hown' hgrow
        go_wp2
        go_roundw
        case rel => exact ⟨k + 1, by omega, by go_num, HI2⟩
        case measure => simp [intOf]; omega
      have e13 : ((s[k].toNat : Int) == 13) = false := beq_eq_false_iff_ne.2 h13
      by_cases h9 : (s[k].toNat : Int) = 9
      · have HS := (show Hid (liT s (k + 1) = liT s k ++ [92, 116]) from (by show _ = _; rw [HQ.out]; unfold Q.shB; rw [if_neg h10, if_neg h13, if_pos h9]))
        have e9 : ((s[k].toNat : Int) == 9) = true := beq_iff_eq.2 h9
        clear HQ h10 h13 h9
        go_wp2_with (at_builtin; refine Lib.wpList_append_own_string _ rfl _ _ 48 9 rfl w.heap.size 5 i0 Tryz.underlying48 Tryz.underlying9 hinf hz0 hz1 hz2 _ _ _ rfl HI.out.1 ⟨#[92, 116]⟩ rfl ?c3 ?c4 ?c5 ?_)
        case c3 => unfold maxLen; show _ + 2 ≤ _; omega
        case c4 => show _ + 2 ≤ _; omega
        case c5 => exact HI.out.2.size
        intro v' w2 hown' hgrow _
        have HI2 := (show Hid (w2.ownsRow w.heap.size 5 1 v' (liT s (k + 1)).length ((liT s (k + 1)).map (Value.int .u8)) ∧ Below w.heap.size w w2) from (by
          refine ⟨?_, HI.out.2.grown hgrow HI.out.2.size (fun j e => (HI.out.1.lt j e).1)⟩
          rw [HS.out, List.length_append, List.map_append]
          rw [cells2] at hown'
          exact hown'))
        clear hown' hgrow
        go_wp2
        go_roundw
        case rel => exact ⟨k + 1, by omega, by go_num, HI2⟩
        case measure => simp [intOf]; omega
      have e9 : ((s[k].toNat : Int) == 9) = false := beq_eq_false_iff_ne.2 h9
      by_cases hg : (s[k].toNat : Int) = 39 ∨ (s[k].toNat : Int) = 92
      · have HS := (show Hid (liT s (k + 1) = liT s k ++ [92, (s[k].toNat : Int)]) from (by show _ = _; rw [HQ.out]; unfold Q.shB; rw [if_neg h10, if_neg h13, if_neg h9, if_pos hg]))
        have hg2 : ((s[k].toNat : Int) == 92) = true ∨ (((s[k].toNat : Int) == 92) = false ∧ ((s[k].toNat : Int) == 39) = true) := by
          rcases hg with h | h
          · exact .inr ⟨beq_eq_false_iff_ne.2 (by omega), beq_iff_eq.2 h⟩
          · exact .inl (beq_iff_eq.2 h)
        clear HQ h10 h13 h9 hg
        rcases hg2 with e92 | ⟨e92, e39⟩
        all_goals
          go_wp2_with (at_builtin; refine wpList_append_own _ rfl _ _ 48 rfl w.heap.size 5 i0 (.int .u8 0) 1 1 Tryz.underlying48 hinf hz0 hz1 hz2 rfl (by decide) _ _ _ rfl (HI.out.1.alloc _) ⟨wr.heap.size, 0, none⟩ 2 2 [.int .u8 92, .int .u8 (s[k].toNat : Int)] rfl rfl ?c1 ?c2 ?c3 ?c4 ?c5 ?_)
          case c1 => exact (Q.lit_own [92, (s[k].toNat : Int)] (by simp) wr).cells rfl
          case c2 => first | rfl | (intro u hu; simp at hu; rcases hu with rfl | rfl <;> rfl) | (intro u hu; simp at hu; subst hu; rfl)
          case c3 => unfold maxLen; omega
          case c4 => omega
          case c5 => first | omega | (simp; omega)
          intro v' w2 hown' hgrow _
          have hle := fun j e => (HI.out.1.lt j e).1
          have HI2 := (show Hid (w2.ownsRow w.heap.size 5 1 v' (liT s (k + 1)).length ((liT s (k + 1)).map (Value.int .u8)) ∧ Below w.heap.size w w2) from (by
            refine ⟨?_, (HI.out.2.alloc HI.out.2.size (.cells #[.int .u8 92, .int .u8 (s[k].toNat : Int)] 5)).grown hgrow (by have := HI.out.2.size; simp; omega) (fun j e => hle j e)⟩
            rw [HS.out, List.length_append, List.map_append]
            exact hown'))
          clear hown' hgrow hle
          go_wp2
          go_roundw
          case rel => exact ⟨k + 1, by omega, by go_num, HI2⟩
          case measure => simp [intOf]; omega
      have e39 : ((s[k].toNat : Int) == 39) = false := beq_eq_false_iff_ne.2 (by omega)
      have e92 : ((s[k].toNat : Int) == 92) = false := beq_eq_false_iff_ne.2 (by omega)
      by_cases hp : 32 ≤ (s[k].toNat : Int) ∧ (s[k].toNat : Int) ≤ 126
      · have HS := (show Hid (liT s (k + 1) = liT s k ++ [(s[k].toNat : Int)]) from (by show _ = _; rw [HQ.out]; unfold Q.shB; rw [if_neg h10, if_neg h13, if_neg h9, if_neg hg, if_pos hp]))
        obtain ⟨hp1, hp2⟩ := hp
        clear HQ h10 h13 h9 hg
        go_wp2_with (at_builtin; refine wpList_append_own _ rfl _ _ 48 rfl w.heap.size 5 i0 (.int .u8 0) 1 1 Tryz.underlying48 hinf hz0 hz1 hz2 rfl (by decide) _ _ _ rfl (HI.out.1.alloc _) ⟨wr.heap.size, 0, none⟩ 1 1 [.int .u8 (s[k].toNat : Int)] rfl rfl ?c1 ?c2 ?c3 ?c4 ?c5 ?_)
        case c1 => exact (Q.lit_own [(s[k].toNat : Int)] (by simp) wr).cells rfl
        case c2 => first | rfl | (intro u hu; simp at hu; rcases hu with rfl | rfl <;> rfl) | (intro u hu; simp at hu; subst hu; rfl)
        case c3 => unfold maxLen; omega
        case c4 => omega
        case c5 => first | omega | (simp; omega)
        intro v' w2 hown' hgrow _
        have hle := fun j e => (HI.out.1.lt j e).1
        have HI2 := (show Hid (w2.ownsRow w.heap.size 5 1 v' (liT s (k + 1)).length ((liT s (k + 1)).map (Value.int .u8)) ∧ Below w.heap.size w w2) from (by
          refine ⟨?_, (HI.out.2.alloc HI.out.2.size (.cells #[.int .u8 (s[k].toNat : Int)] 5)).grown hgrow (by have := HI.out.2.size; simp; omega) (fun j e => hle j e)⟩
          rw [HS.out, List.length_append, List.map_append]
          exact hown'))
        clear hown' hgrow hle
        go_wp2
        go_roundw
        case rel => exact ⟨k + 1, by omega, by go_num, HI2⟩
        case measure => simp [intOf]; omega
      have hm1 : s[k].toNat / 16 < 16 := by omega
      have hm2 : s[k].toNat % 16 < 16 := by omega
      have HS := (show Hid (liT s (k + 1) = liT s k ++ [92, 120, ((hexD (s[k].toNat / 16)).toNat : Int), ((hexD (s[k].toNat % 16)).toNat : Int)]) from (by
        show _ = _
        rw [HQ.out, hexD_q ⟨_, hm1⟩, hexD_q ⟨_, hm2⟩]
        unfold Q.shB
        rw [if_neg h10, if_neg h13, if_neg h9, if_neg hg, if_neg hp]
        rfl))
      have HX : Hid (∀ w, Calls Tryz.prog 72 #[.int .i64 (s[k].toNat : Int)] w fun e w' => e = .returned (.string ⟨#[hexD (s[k].toNat / 16), hexD (s[k].toNat % 16)]⟩) ∧ Below w.heap.size w w') := fun w => hexR_any _ (by omega) w
      have hp2 : ¬ 32 ≤ (s[k].toNat : Int) ∨ (32 ≤ (s[k].toNat : Int) ∧ ¬ (s[k].toNat : Int) ≤ 126) := by omega
      have hw8 : IntKind.i64.wrap (s[k].toNat : Int) = (s[k].toNat : Int) := by rw [IntKind.wrap_i64]; omega
      clear HQ h10 h13 h9 hg hp hm1 hm2
      generalize hexD (s[k].toNat / 16) = x at *
      generalize hexD (s[k].toNat % 16) = y at *
      rcases hp2 with hp2 | ⟨hp2, hp3⟩
      all_goals
        go_wp2_with fail
        refine (HX.out _).mono ?_
        rintro e w1 ⟨rfl, hb⟩
        have HJ := (show Hid (w1.ownsRow w.heap.size 5 1 (.slice ao (liT s k).length cap) (liT s k).length ((liT s k).map (Value.int .u8)) ∧ Below w.heap.size w w1) from ⟨own_below' HI.out.1 hb, HI.out.2.trans (hb.mono HI.out.2.size)⟩)
        clear hb HX HI
        go_wp2_with (at_builtin; refine Lib.wpList_append_own_string _ rfl _ _ 48 9 rfl w.heap.size 5 i0 Tryz.underlying48 Tryz.underlying9 hinf hz0 hz1 hz2 _ _ _ rfl HJ.out.1 (⟨#[92, 120]⟩ ++ ⟨#[x, y]⟩) rfl ?c3 ?c4 ?c5 ?_)
        case c3 => unfold maxLen; show _ + 4 ≤ _; omega
        case c4 => show _ + 4 ≤ _; omega
        case c5 => exact HJ.out.2.size
        intro v' w2 hown' hgrow _
        have HI2 := (show Hid (w2.ownsRow w.heap.size 5 1 v' (liT s (k + 1)).length ((liT s (k + 1)).map (Value.int .u8)) ∧ Below w.heap.size w w2) from (by
          refine ⟨?_, HJ.out.2.grown hgrow HJ.out.2.size (fun j e => (HJ.out.1.lt j e).1)⟩
          rw [HS.out, List.length_append, List.map_append]
          rw [cat22, cells4] at hown'
          exact hown'))
        clear hown' hgrow HJ
        go_wp2
        go_roundw
        case rel => exact ⟨k + 1, by omega, by go_num, HI2⟩
        case measure => simp [intOf]; omega
    · have HL := (show Hid _ from liT_all s k (by omega))
      have hct := text_own HI.out.1
      have hsz : (asText (liT s k)).size ≤ 1020 := by rw [asText_size]; omega
      have HB := (show Hid _ from HI.out.2)
      clear HI
      generalize asText (liT s k) = A at *
      go_wp2_with fail
      go_ret
      exact ⟨ret_str HL.out, HB.out⟩
end Go.Proofs.YthffklhojdldkaaGreatDoor

namespace Go.Proofs.YthffklhojdldkaaGreatDoor
open Go.RowKit
def mkS (a b c d : Int) : BitVec 256 := BitVec.ofNat 256 (a.toNat + 2 ^ 64 * (b.toNat + 2 ^ 64 * (c.toNat + 2 ^ 64 * d.toNat)))
theorem mkS_wd (a b c d : Int) (ha : 0 ≤ a ∧ a < 18446744073709551616) (hb : 0 ≤ b ∧ b < 18446744073709551616) (hc : 0 ≤ c ∧ c < 18446744073709551616) (hd : 0 ≤ d ∧ d < 18446744073709551616) :
    wd (mkS a b c d) 0 = a ∧ wd (mkS a b c d) 1 = b ∧ wd (mkS a b c d) 2 = c ∧ wd (mkS a b c d) 3 = d := by
  unfold mkS
  simp only [wd, BitVec.extractLsb'_toNat, BitVec.toNat_ofNat, Nat.shiftRight_eq_div_pow]
  refine ⟨?_, ?_, ?_, ?_⟩ <;> omega
def txO (l : List UInt8) : ByteArray := ⟨l.toArray⟩
def rnT (a b : Nat) : ByteArray := ⟨#[37, 117, 123]⟩ ++ txO (dgT 16 a) ++ ⟨#[45]⟩ ++ txO (dgT 16 b) ++ ⟨#[125]⟩
def tkX (t : Tk) : ByteArray :=
  if t.kd = 1 then t.tx else if t.kd = 21 then ⟨#[123, 58]⟩ ++ gnm t.tx else if t.kd = 2 then Q.asText (Q.qT t.tx) else
  if t.kd = 3 then txO (shT (mkS t.s0 t.s1 t.s2 t.s3)) else if t.kd = 28 then ⟨#[37]⟩ ++ t.tx else if t.kd = 5 then rnT t.nn.toNat t.s0.toNat else
  if t.kd = 4 then txO (dgT 10 t.nn.toNat) else if t.kd = 13 then ⟨#[94]⟩ ++ txO (dgT 10 t.nn.toNat) else if t.kd = 14 then ⟨#[94, 43]⟩ ++ txO (dgT 10 t.nn.toNat) else
  if t.kd = 15 then ⟨#[94, 45]⟩ ++ txO (dgT 10 t.nn.toNat) else if t.kd = 29 then ⟨#[37, 101]⟩ else if t.kd = 30 then ⟨#[37, 102]⟩ else txO (sgn t.kd.toNat)
/-- What a right token holds, kind by kind. -/
theorem ri_nat {t : Tk} (h : riF t = true) : 1 ≤ t.kd ∧ t.kd ≤ 30 ∧ txF t.kd t.tx = true ∧ 0 ≤ t.nn ∧ t.nn ≤ (if t.kd = 5 then t.s0 else gtK t.kd) ∧ seF t.kd t.tx t.s0 t.s1 t.s2 t.s3 = true := by
  unfold riF nbF at h
  simp only [Bool.and_eq_true, decide_eq_true_eq] at h
  obtain ⟨⟨⟨⟨h1, h2⟩, h3⟩, h4, h5⟩, h6⟩ := h
  exact ⟨h1, h2, h3, h4, h5, h6⟩
theorem isNm_len {s : ByteArray} (h : isNm s = true) : 0 < s.size ∧ s.size ≤ 32 := by
  unfold isNm at h
  simp only [Bool.and_eq_true, decide_eq_true_eq] at h
  exact ⟨h.1.1.1, h.1.1.2⟩
theorem emp_size {s : ByteArray} (h : (s.toList == []) = true) : s.size = 0 := by
  have h := beq_iff_eq.1 h
  rw [ByteArray.toList_eq] at h
  have : s.data.toList.length = 0 := by rw [h]; rfl
  exact this
theorem txF_len {k : Int} {s : ByteArray} (h : txF k s = true) : s.size ≤ 255 := by
  unfold txF at h
  split at h
  · have := isNm_len h; omega
  split at h
  · rcases Bool.or_eq_true_iff.1 h with h | h
    · have := emp_size h; omega
    · have := isNm_len h; omega
  split at h
  · have := of_decide_eq_true h; omega
  split at h
  · have := beq_iff_eq.1 h; omega
  · have := emp_size h; omega
theorem set5_le {k s0 s1 s2 s3 : Int} {s : ByteArray} (hk : k = 5) (h : seF k s s0 s1 s2 s3 = true) : s0 ≤ 1114111 := by
  subst hk
  unfold seF at h
  rw [if_neg (by omega), if_neg (by omega), if_pos rfl] at h
  simp only [Bool.and_eq_true, decide_eq_true_eq] at h
  exact h.1
theorem txO_size (l : List UInt8) : (txO l).size = l.length := by show l.toArray.size = _; simp
theorem shT_len (x : BitVec 256) : (shT x).length ≤ 2306 := by
  unfold shT
  split
  · simp
  · have h1 := mems_len (spL (bys x))
    have h2 := spL_len256 x
    simp only [List.length_append, List.length_cons, List.length_nil]
    omega
end Go.Proofs.YthffklhojdldkaaGreatDoor

namespace Go.Proofs.YthffklhojdldkaaGreatDoor
open Go.RowKit
/-- The laid tables. -/
structure GW (W : World) : Prop where
  s : SG W
  z : TZ W
  p : Lib.TabIs Tryz.prog W "internal/strconv.uint64pow10" .u64 Lib.pow10Tab
theorem GW.later {W W' : World} (h : GW W) (hb : Below W.heap.size W W') : GW W' := ⟨h.s.later hb, h.z.later hb, Lib.tabBelow_of_tabIs h.p W' hb⟩
theorem itoa_any (a : Nat) (ha : a ≤ 999999) (w : World) (hg : GW w) : Calls Tryz.prog 35 #[.int .i64 (a : Int)] w fun e w' => e = .returned (.string (txO (dgT 10 a))) ∧ Below w.heap.size w w' := by
  refine (Tryz.strconv_Itoa (a : Int) (by omega) (by omega) w hg.p).mono ?_
  rintro e w1 ⟨rfl, k, os, rfl⟩
  refine ⟨?_, Lib.below_grow _ w (Nat.le_refl _) k os⟩
  rw [dgT_dec]
  unfold txO Lib.itoa
  rw [if_neg (by omega), Int.toNat_natCast]
theorem drew_in {wr w2 : World} (h : Below wr.drew.heap.size wr.drew w2) : Below wr.heap.size wr w2 := ((Below.refl wr.heap.size wr).drew).trans h
end Go.Proofs.YthffklhojdldkaaGreatDoor

namespace Go.Proofs.YthffklhojdldkaaGreatDoor
open Go.RowKit
theorem Tryz.info45 : (Tryz.prog.info? 45).map (fun i => (i.zero, i.size, i.bytes)) = some (some (.agg #[.int .i64 0, .int .i64 0, .int .i64 0, .int .i64 0, .string ⟨#[]⟩, .int .u64 0, .int .u64 0, .int .u64 0, .int .u64 0]), 9, 80) := by kernel_rfl
abbrev zA : Value := .agg #[.int .i64 0, .int .i64 0, .int .i64 0, .int .i64 0, .string ⟨#[]⟩, .int .u64 0, .int .u64 0, .int .u64 0, .int .u64 0]
def z7 : Tk := ⟨-7, 0, 0, 0, ⟨#[]⟩, 0, 0, 0, 0⟩
theorem own_empty (w : World) : (w.alloc (.cells #[] 45)).ownsRow w.heap.size 45 9 (.slice (some ⟨w.heap.size, 0, none⟩) 0 0) 0 [] :=
  ⟨rfl, .inr ⟨w.heap.size, 0, #[], rfl, Nat.le_refl _, heap_alloc_new w _, Nat.le_refl _, Nat.zero_le _, rfl, rfl⟩⟩
theorem own_cap {W : World} {B e size n : Nat} {g cap : Nat} {xs : List Value} (h : W.ownsRow B e size (.slice (some ⟨g, 0, none⟩) n cap) n xs) : n ≤ cap := by
  rcases h.2 with ⟨q, _⟩ | ⟨g2, c2, cur, q, _, _, h3, _⟩
  · cases q
  · cases q; exact h3
theorem tk_unit (n : Tk) : ∀ u ∈ tkV n, u.oneCell' = true := fun u hu => by
  simp only [tkV, List.mem_cons, List.not_mem_nil, or_false] at hu
  rcases hu with rfl | rfl | rfl | rfl | rfl | rfl | rfl | rfl | rfl <;> rfl
theorem tkc_cell (L : List Tk) : ∀ u ∈ tkc L, u.oneCell' = true := fun u hu => by
  obtain ⟨n, _, hn⟩ := List.mem_flatMap.1 hu
  exact tk_unit n u hn
theorem tkc_len (L : List Tk) : (tkc L).length = L.length * 9 := by
  induction L with
  | nil => rfl
  | cons a L ih =>
    have e : tkc (a :: L) = tkV a ++ tkc L := by unfold tkc; rw [List.flatMap_cons]
    have hl : (tkV a).length = 9 := rfl
    rw [e, List.length_append, ih, hl, List.length_cons]; omega
/-- What comes in. -/
structure InT (W : World) (A : Option Addr) (c : Nat) (L : List Tk) : Prop where
  r : RdO W A L
  z : A = none → c = 0 ∧ L = []
theorem in_cells {W : World} {ad : Addr} {L : List Tk} (h : RdO W (some ad) L) : ∀ (j : Nat) u, (tkc L)[j]? = some u → W.cell? (ad.add j) = some u := fun j u hj => by
  have hlt : j < L.length * 9 := by
    by_cases q : j < L.length * 9
    · exact q
    · rw [List.getElem?_eq_none (by rw [tkc_len]; omega)] at hj; cases hj
  obtain ⟨g, o, e, _, hc⟩ := h.rd (by rintro rfl; simp at hlt)
  cases e
  have hd : j = j / 9 * 9 + j % 9 := by omega
  obtain ⟨nd, hn⟩ : ∃ nd, L[j / 9]? = some nd := ⟨_, List.getElem?_eq_getElem (by omega)⟩
  obtain ⟨u', hu'⟩ : ∃ u', (tkV nd)[j % 9]? = some u' := ⟨_, List.getElem?_eq_getElem (by show j % 9 < 9; omega)⟩
  have hj2 := tkc_get L _ _ _ _ hn hu'
  rw [← hd, hj] at hj2
  have hj2 : u = u' := by simpa using hj2
  subst hj2
  obtain ⟨c0, c1, c2, c3, c4, c5, c6, c7, c8⟩ := hc _ _ hn
  rw [Addr.add_lit]
  clear hn hj
  generalize j / 9 = a at *
  have h9 : j % 9 < 9 := by omega
  generalize j % 9 = b at *
  subst hd
  rw [← Nat.add_assoc]
  match b, h9, hu' with
  | 0, _, hj => cases hj; exact c0
  | 1, _, hj => cases hj; exact c1
  | 2, _, hj => cases hj; exact c2
  | 3, _, hj => cases hj; exact c3
  | 4, _, hj => cases hj; exact c4
  | 5, _, hj => cases hj; exact c5
  | 6, _, hj => cases hj; exact c6
  | 7, _, hj => cases hj; exact c7
  | 8, _, hj => cases hj; exact c8
/-- What was lent. -/
structure LentR (W : World) (B g cap : Nat) (L : List Tk) : Prop where
  o : W.ownsRow B 45 9 (.slice (some ⟨g, 0, none⟩) (L.length + 1) cap) (L.length + 1) (tkc L ++ tkV z7)
set_option maxRecDepth 100000 in
set_option maxHeartbeats 4000000 in
theorem lent_some (ad : Addr) (c : Nat) (L : List Tk) (w : World) (hl : L.length * 80 ≤ 140737488351232) (hc : ∀ (j : Nat) u, (tkc L)[j]? = some u → w.cell? (ad.add j) = some u) :
    Calls Tryz.prog 5 #[.slice (some ad) L.length c] w fun e w' => (∃ g cap, e = .returned (.slice (some ⟨g, 0, none⟩) L.length cap) ∧ LentR w' w.heap.size g cap L) ∧ Below w.heap.size w w' := by
  obtain ⟨i0, hinf, hz0, hz1, hz2⟩ := info_parts Tryz.info45
  have hO := own_empty w
  have HB := (show Hid (Below w.heap.size w (w.alloc (.cells #[] 45))) from below_box _ _)
  have HC := (show Hid (∀ (j : Nat) u, (tkc L)[j]? = some u → (w.alloc (.cells #[] 45)).cell? (ad.add j) = some u) from fun j u hj => by
    have h1 := hc j u hj
    have h2 := World.block_lt_of_cell? w _ h1
    exact ((below_box w (.cells #[] 45)).cell (p := ad.add j) h2).trans h1)
  have HI := (show Hid ((tkc L).length = L.length * 9 ∧ ∀ u ∈ tkc L, u.oneCell' = true) from ⟨tkc_len L, tkc_cell L⟩)
  clear hc
  go_enter Tryz.func5, Tryz.ntmps5
  go_wp2_with (at_builtin; refine wpList_append_own _ rfl _ _ 22 rfl w.heap.size 45 i0 zA 9 80 Tryz.underlying22 hinf hz0 hz1 hz2 rfl (by decide) _ _ _ rfl hO ad L.length c (tkc L) rfl HI.out.1 HC.out HI.out.2 ?c3 ?c4 ?c5 ?_)
  case c3 => unfold maxLen; omega
  case c4 => omega
  case c5 => simp
  intro v1 w1 hown hgrow _
  have HB1 := (show Hid (Below w.heap.size w w1) from HB.out.grown hgrow (by simp) (fun k e => (hO.lt k e).1))
  have hsz := HB1.out.size
  clear hgrow hO HB
  go_wp2_with (at_builtin; refine wpList_append_lies _ rfl _ _ 22 rfl w.heap.size 45 i0 zA 9 80 Tryz.underlying22 hinf hz0 hz1 hz2 rfl (by decide) _ _ _ rfl (hown.alloc _) ⟨w1.heap.size, 0, none⟩ 1 1 (tkV z7) rfl rfl ?c1 (tk_unit _) (by decide) ?c3 ?c4 ?c5 (w1.heap.size + 1) (by simp) ?_)
  case c1 => exact World.news_of_block (cs := #[.int .i64 (-7), .int .i64 0, .int .i64 0, .int .i64 0, .string ⟨#[]⟩, .int .u64 0, .int .u64 0, .int .u64 0, .int .u64 0]) (t := 45) (fr := (0, 0)) (heap_alloc_new w1 _)
  case c3 => unfold maxLen; omega
  case c4 => omega
  case c5 => simp; omega
  intro g cap w2 hown2 hgrow2 hat hlt
  have HB2 := (show Hid (Below w.heap.size w w2) from (HB1.out.alloc hsz _).grown hgrow2 (by simp; omega) (fun k e => (hown.lt k e).1))
  have HO2 := (show Hid (w2.ownsRow w.heap.size 45 9 (.slice (some ⟨g, 0, none⟩) (L.length + 1) cap) (L.length + 1) (tkc L ++ tkV z7)) from hown2)
  have hcap := own_cap hown2
  have z0 : (0 : Int) ≤ (L.length : Int) := by omega
  have z1 : (L.length : Int) ≤ (cap : Int) := by omega
  clear hown hown2 hgrow2 HB1 hat hlt HC HI
  go_wp2_with fail
  go_ret
  exact ⟨⟨g, cap, rfl, ⟨HO2.out⟩⟩, HB2.out⟩
set_option maxRecDepth 100000 in
set_option maxHeartbeats 4000000 in
theorem lent_nil (w : World) : Calls Tryz.prog 5 #[.slice none 0 0] w fun e w' => (∃ g cap, e = .returned (.slice (some ⟨g, 0, none⟩) ([] : List Tk).length cap) ∧ LentR w' w.heap.size g cap []) ∧ Below w.heap.size w w' := by
  obtain ⟨i0, hinf, hz0, hz1, hz2⟩ := info_parts Tryz.info45
  have hO := own_empty w
  have HB := (show Hid (Below w.heap.size w (w.alloc (.cells #[] 45))) from below_box _ _)
  go_enter Tryz.func5, Tryz.ntmps5
  go_wp2_with (at_builtin; first | refine wpList_append_own_none rfl _ _ 22 rfl w.heap.size 45 i0 9 Tryz.underlying22 hinf _ _ _ rfl hO rfl ?_ | refine wpList_append_lies _ rfl _ _ 22 rfl w.heap.size 45 i0 zA 9 80 Tryz.underlying22 hinf hz0 hz1 hz2 rfl (by decide) _ _ _ rfl (hO.alloc _) ⟨w.heap.size + 1, 0, none⟩ 1 1 (tkV z7) rfl rfl ?c1 (tk_unit _) (by decide) ?c3 ?c4 ?c5 (w.heap.size + 1 + 1) (by simp) ?_)
  case c1 =>
    have h := heap_alloc_new (w.alloc (.cells #[] 45)) (.cells #[.int .i64 (-7), .int .i64 0, .int .i64 0, .int .i64 0, .string ⟨#[]⟩, .int .u64 0, .int .u64 0, .int .u64 0, .int .u64 0] 45)
    rw [World.size_alloc] at h
    exact World.news_of_block (cs := #[.int .i64 (-7), .int .i64 0, .int .i64 0, .int .i64 0, .string ⟨#[]⟩, .int .u64 0, .int .u64 0, .int .u64 0, .int .u64 0]) (t := 45) (fr := (0, 0)) h
  case c3 => unfold maxLen; omega
  case c4 => omega
  case c5 => simp; omega
  intro g cap w2 hown2 hgrow2 hat hlt
  have HB2 := (show Hid (Below w.heap.size w w2) from (HB.out.alloc (by simp) _).grown hgrow2 (by simp; omega) (fun k e => (hO.lt k e).1))
  have HO2 := (show Hid (w2.ownsRow w.heap.size 45 9 (.slice (some ⟨g, 0, none⟩) (0 + 1) cap) (0 + 1) (tkc [] ++ tkV z7)) from hown2)
  have z1 : (0 : Int) ≤ (cap : Int) := by omega
  clear hown2 hgrow2 HB hat hlt hO
  go_wp2_with fail
  go_ret
  exact ⟨⟨g, cap, rfl, ⟨HO2.out⟩⟩, HB2.out⟩
theorem lent_any (A : Option Addr) (c : Nat) (L : List Tk) (w : World) (hl : L.length * 80 ≤ 140737488351232) (h : InT w A c L) : Calls Tryz.prog 5 #[.slice A L.length c] w fun e w' => (∃ g cap, e = .returned (.slice (some ⟨g, 0, none⟩) L.length cap) ∧ LentR w' w.heap.size g cap L) ∧ Below w.heap.size w w' := by
  cases A with
  | none =>
    obtain ⟨rfl, rfl⟩ := h.z rfl
    exact lent_nil w
  | some ad => exact lent_some ad c L w hl (in_cells h.r)
theorem LentR.below {W W' : World} {B g cap : Nat} {L : List Tk} (h : LentR W B g cap L) (hb : Below W.heap.size W W') : LentR W' B g cap L := ⟨own_below' h.o hb⟩
theorem LentR.rd {W : World} {B g cap : Nat} {L : List Tk} (h : LentR W B g cap L) : RdO W (some ⟨g, 0, none⟩) L := ⟨fun _ => ⟨g, 0, rfl, (h.o.lt g rfl).2, fun k t hk => by
  have hc := h.o.cells (g := g) rfl
  have key : ∀ j u, (tkV t)[j]? = some u → W.cell? ⟨g, 0 + k * 9 + j, none⟩ = some u := fun j u hj => by
    have h1 := tkc_get L k j t u hk hj
    have h2 := hc (k * 9 + j) u (by rw [List.getElem?_append_left (List.getElem?_eq_some_iff.1 h1).1]; exact h1)
    rw [Addr.add_lit] at h2
    rw [Nat.add_assoc]
    exact h2
  exact ⟨key 0 _ rfl, key 1 _ rfl, key 2 _ rfl, key 3 _ rfl, key 4 _ rfl, key 5 _ rfl, key 6 _ rfl, key 7 _ rfl, key 8 _ rfl⟩⟩⟩
theorem LentR.last {W : World} {B g cap : Nat} {L : List Tk} (h : LentR W B g cap L) : TR W g (L.length * 9) z7 := by
  have hc := h.o.cells (g := g) rfl
  have key : ∀ i u, (tkV z7)[i]? = some u → W.cell? ⟨g, L.length * 9 + i, none⟩ = some u := fun i u hu => by
    have := hc (L.length * 9 + i) u (by rw [List.getElem?_append_right (by rw [tkc_len]; omega), tkc_len, show L.length * 9 + i - L.length * 9 = i from by omega]; exact hu)
    rw [Addr.add_lit, Nat.zero_add] at this
    exact this
  exact ⟨key 0 _ rfl, key 1 _ rfl, key 2 _ rfl, key 3 _ rfl, key 4 _ rfl, key 5 _ rfl, key 6 _ rfl, key 7 _ rfl, key 8 _ rfl⟩
set_option maxRecDepth 100000 in
set_option maxHeartbeats 8000000 in
theorem same_any (A1 A2 : Option Addr) (c1 c2 : Nat) (L : List Tk) (hl : L.length ≤ 140737488355328) (w : World) (h1 : RdO w A1 L) (h2 : RdO w A2 L) :
    Calls Tryz.prog 22 #[.slice A1 L.length c1, .slice A2 L.length c2] w fun e w' => e = .returned (.bool true) ∧ Below w.heap.size w w' := by
  have H1 := (show Hid _ from h1)
  have H2 := (show Hid _ from h2)
  have HG := (show Hid (∀ k, k < L.length → ∃ t, L[k]? = some t ∧ L ≠ []) from fun k hk => ⟨_, List.getElem?_eq_getElem hk, by rintro rfl; simp at hk⟩)
  clear h1 h2
  have t1 : ((L.length : Int) != (L.length : Int)) = false := by simp
  go_enter Tryz.func22, Tryz.ntmps22
  go_wp2_with fail
  go_loopw [5] (fun t wr => ∃ k : Nat, k ≤ L.length ∧ t = .int .i64 k ∧ Hid (Below w.heap.size w wr)) (fun t _ => L.length - (intOf t).toNat)
  case atStart => exact ⟨0, by omega, by go_num, Below.refl _ _⟩
  case round =>
    obtain ⟨k, hk, rfl, HW⟩ := hrel
    by_cases hlt : k < L.length
    · obtain ⟨t, hr, hne⟩ := HG.out k hlt
      obtain ⟨g1, o1, rfl, l1, n1⟩ := H1.out.rd hne
      obtain ⟨g2, o2, rfl, l2, n2⟩ := H2.out.rd hne
      have key1 : ∀ j, wr.cell? ⟨g1, j, none⟩ = w.cell? ⟨g1, j, none⟩ := fun j => HW.out.cell (p := ⟨g1, j, none⟩) l1
      have key2 : ∀ j, wr.cell? ⟨g2, j, none⟩ = w.cell? ⟨g2, j, none⟩ := fun j => HW.out.cell (p := ⟨g2, j, none⟩) l2
      obtain ⟨a0, a1, a2, a3, a4, a5, a6, a7, a8⟩ := n1 k _ hr
      obtain ⟨d0, d1, d2, d3, d4, d5, d6, d7, d8⟩ := n2 k _ hr
      rw [← key1] at a0 a1 a2 a3 a4 a5 a6 a7 a8
      rw [← key2] at d0 d1 d2 d3 d4 d5 d6 d7 d8
      have hg1 : g1 < wr.heap.size := Nat.lt_of_lt_of_le l1 HW.out.size
      have hg2 : g2 < wr.heap.size := Nat.lt_of_lt_of_le l2 HW.out.size
      have z0 : (0 : Int) ≤ (k : Int) := by omega
      have z1 : (k : Int) < (L.length : Int) := by omega
      obtain ⟨kd, nn, fr, en, tx, s0, s1, s2, s3⟩ := t
      dsimp only at a0 a1 a2 a3 a4 a5 a6 a7 a8 d0 d1 d2 d3 d4 d5 d6 d7 d8
      have hq : ∀ W, (binOp .neq 45 (.agg #[.int .i64 kd, .int .i64 nn, .int .i64 fr, .int .i64 en, .string tx, .int .u64 s0, .int .u64 s1, .int .u64 s2, .int .u64 s3]) (.agg #[.int .i64 kd, .int .i64 nn, .int .i64 fr, .int .i64 en, .string tx, .int .u64 s0, .int .u64 s1, .int .u64 s2, .int .u64 s3])).run Tryz.prog W = .ok (.bool false) W := fun W => tok_neq ⟨kd, nn, fr, en, tx, s0, s1, s2, s3⟩ W
      clear hr HG H1 H2 n1 n2 hne key1 key2
      generalize L.length = n at *
      go_wp2_with fail
      go_region
      all_goals
        clear a0 a1 a2 a3 a4 a5 a6 a7 a8 d0 d1 d2 d3 d4 d5 d6 d7 d8
        go_wp2_with fail
        go_roundw
        case rel => exact ⟨k + 1, by omega, by go_num, HW.out.drew⟩
        case measure => simp [intOf]; omega
    · obtain rfl : k = L.length := by omega
      clear HG H1 H2
      go_wp2_with fail
      go_ret
      exact ⟨rfl, HW.out⟩
set_option maxRecDepth 100000 in
set_option maxHeartbeats 4000000 in
theorem kept_any (A : Option Addr) (c g cap B : Nat) (L : List Tk) (hl : L.length * 80 ≤ 140737488351232) (w : World) (h : RdO w A L) (ho : LentR w B g cap L) :
    Calls Tryz.prog 10 #[.slice (some ⟨g, 0, none⟩) L.length cap, .slice A L.length c] w fun e w' => e = .returned (.bool true) ∧ Below w.heap.size w w' := by
  have HS : Hid (∀ _ : Unit, Calls Tryz.prog 22 #[.slice (some ⟨g, 0, none⟩) L.length cap, .slice A L.length c] w fun e w' => e = .returned (.bool true) ∧ Below w.heap.size w w') := fun _ => same_any (some ⟨g, 0, none⟩) A cap c L (by omega) w ho.rd h
  have hcap := own_cap ho.o
  have HO := (show Hid (∀ w', Below w.heap.size w w' → TR w' g (L.length * 9) z7) from fun w' hb => (ho.below hb).last)
  clear ho h
  have z0 : (0 : Int) ≤ (L.length : Int) := by omega
  have z1 : (L.length : Int) + 1 ≤ (cap : Int) := by omega
  have z2 : (L.length : Int) < (L.length : Int) + 1 := by omega
  have hq := tok_eql z7
  generalize L.length = n at *
  go_enter Tryz.func10, Tryz.ntmps10
  go_wp2_with fail
  refine (HS.out ()).mono ?_
  rintro e w1 ⟨rfl, hb⟩
  obtain ⟨c0, c1, c2, c3, c4, c5, c6, c7, c8⟩ := HO.out w1 hb
  have HB := (show Hid _ from hb)
  clear hb HS HO
  unfold z7 at c0 c1 c2 c3 c4 c5 c6 c7 c8 hq
  dsimp only [tkG] at c0 c1 c2 c3 c4 c5 c6 c7 c8 hq
  go_wp2_with fail
  go_ret
  exact ⟨rfl, HB.out⟩
end Go.Proofs.YthffklhojdldkaaGreatDoor

namespace Go.Proofs.YthffklhojdldkaaGreatDoor
open Go.ChangeShapes Go.WideShapes Go.ChangeAt Go.RowKit
theorem Tryz.cells45 : Tryz.prog.cellsOf 45 = 9 := by kernel_rfl
theorem Tryz.cells43 : Tryz.prog.cellsOf 43 = 4 := by kernel_rfl
theorem Tryz.cells41 : Tryz.prog.cellsOf 41 = 1 := by kernel_rfl
theorem Tryz.cells9 : Tryz.prog.cellsOf 9 = 1 := by kernel_rfl
theorem Tryz.cells3 : Tryz.prog.cellsOf 3 = 1 := by kernel_rfl
theorem Tryz.bytes45 : Tryz.prog.bytesOf 45 = 80 := by kernel_rfl
theorem sized_at {H : Type} {P : Program} {ts : List TypeId} {ds : List (DataW H)} (h : (DataW.weightsEach P ts ds).all (· ≤ reachBytes) = true) {j : Nat} {t : TypeId} {d : DataW H} (ht : ts[j]? = some t) (hd : ds[j]? = some d) : ∀ n ∈ d.weights P t, n ≤ reachBytes := fun n hn => by
  have := List.all_eq_true.1 h _ (DataW.weights_mem_each ht hd n hn)
  simpa using this
theorem list9 {α : Type} {l : List α} (h : l.length = 9) : ∃ a b c d e f g i j, l = [a, b, c, d, e, f, g, i, j] := by
  match l, h with
  | [a, b, c, d, e, f, g, i, j], _ => exact ⟨a, b, c, d, e, f, g, i, j, rfl⟩
theorem trod_six {H : Type} {enc : TypeId × Value → H} {P : Program} {w : World} {base : Nat} {spare : Nat → Bool} {held : Bool} {t : TypeId} {f0 f1 f2 f3 f4 f5 : Field} {fuel : Nat} {cs : List Value} {x : DataW H × List MemPlace} (ht : P.underlying t = some (.struct #[f0, f1, f2, f3, f4, f5])) (h : DataW.trod enc P w base spare held fuel t cs = some x) :
    ∃ y0 y1 y2 y3 y4 y5 n, cs.length = P.cellsOf t ∧ DataW.trod enc P w base spare held n f0.type ((cs.drop f0.offset).take (P.cellsOf f0.type)) = some y0 ∧
      DataW.trod enc P w base spare held n f1.type ((cs.drop f1.offset).take (P.cellsOf f1.type)) = some y1 ∧ DataW.trod enc P w base spare held n f2.type ((cs.drop f2.offset).take (P.cellsOf f2.type)) = some y2 ∧
      DataW.trod enc P w base spare held n f3.type ((cs.drop f3.offset).take (P.cellsOf f3.type)) = some y3 ∧ DataW.trod enc P w base spare held n f4.type ((cs.drop f4.offset).take (P.cellsOf f4.type)) = some y4 ∧
      DataW.trod enc P w base spare held n f5.type ((cs.drop f5.offset).take (P.cellsOf f5.type)) = some y5 := by
  obtain ⟨xs, n, _, rfl, hl, hlen, hf⟩ := DataW.trod_struct ht h
  match xs, hlen with
  | [y0, y1, y2, y3, y4, y5], _ => exact ⟨y0, y1, y2, y3, y4, y5, n, hl, by simpa using hf 0 f0 rfl, by simpa using hf 1 f1 rfl, by simpa using hf 2 f2 rfl, by simpa using hf 3 f3 rfl, by simpa using hf 4 f4 rfl, by simpa using hf 5 f5 rfl⟩
theorem wf64 {n : Int} (h : (Lit.int .u64 n).wf = true) : 0 ≤ n ∧ n < 18446744073709551616 := by
  have := bounds_u64 h
  omega
set_option maxRecDepth 100000 in
theorem token_in {H : Type} {enc : TypeId × Value → H} {W : World} {held : Bool} {n : Nat} {cs : List Value} {x : DataW H × List MemPlace} (h : DataW.trod enc Tryz.prog W 0 (fun _ => true) held n 45 cs = some x) :
    ∃ t : Tk, cs = tkV t ∧ TkB t := by
  obtain ⟨y0, y1, y2, y3, y4, y5, k, hl, h0, h1, h2, h3, h4, h5⟩ := trod_six Tryz.underlying45 h
  rw [Tryz.cells45] at hl
  obtain ⟨a, b, c, d, e, f, g, i, j, rfl⟩ := list9 hl
  simp only [Tryz.cells3, Tryz.cells9, Tryz.cells43, List.drop_zero, List.take_succ_cons, List.take_zero, List.drop_succ_cons] at h0 h1 h2 h3 h4 h5
  obtain ⟨N0, e0, _, _⟩ := DataW.trod_int Tryz.underlying3 h0
  obtain ⟨N1, e1, _, b1⟩ := DataW.trod_int Tryz.underlying3 h1
  obtain ⟨N2, e2, _, _⟩ := DataW.trod_int Tryz.underlying3 h2
  obtain ⟨N3, e3, _, _⟩ := DataW.trod_int Tryz.underlying3 h3
  obtain ⟨s, e4, hs, _⟩ := DataW.trod_string Tryz.underlying9 h4
  obtain ⟨z0, z1, z2, z3, k2, _, g0, g1, g2, g3⟩ := trod_array4 Tryz.underlying43 Tryz.cells41 h5
  obtain ⟨M0, f0, _, m0⟩ := DataW.trod_int Tryz.underlying41 g0
  obtain ⟨M1, f1, _, m1⟩ := DataW.trod_int Tryz.underlying41 g1
  obtain ⟨M2, f2, _, m2⟩ := DataW.trod_int Tryz.underlying41 g2
  obtain ⟨M3, f3, _, m3⟩ := DataW.trod_int Tryz.underlying41 g3
  cases e0; cases e1; cases e2; cases e3; cases e4; cases f0; cases f1; cases f2; cases f3
  have hb := bounds_i64 b1
  exact ⟨⟨N0, N1, N2, N3, s, M0, M1, M2, M3⟩, rfl, ⟨by show N1 < _; omega, (wf64 m0).1, (wf64 m0).2, wf64 m1, wf64 m2, wf64 m3⟩⟩
/-- Tokens that come in. -/
theorem open_toks {H : Type} {enc : TypeId × Value → H} {W : World} {held : Bool} {v : Value} {d : DataW H} {p : List MemPlace} (h : DataW.Trod enc Tryz.prog W 0 (fun _ => true) held 22 v d p) (hv : ∃ a l c, v = .slice a l c) :
    ∃ A c L, v = .slice A L.length c ∧ InT W A c L ∧ (∀ t ∈ L, TkB t) ∧ ((∀ n ∈ d.weights Tryz.prog 22, n ≤ reachBytes) → L.length * 80 ≤ 140737488351232) := by
  obtain ⟨fuel, hf⟩ := h
  obtain ⟨a0, len0, cap0, rfl⟩ := hv
  have hr : reachBytes = 140737488351232 := by decide
  rcases Go.Deep.open_slice Tryz.underlying22 hf with ⟨hc, hx⟩ | ⟨a, len, cap, m, n, D, Pl, hc, _, hl, hm, hmm, hx, hall⟩
  · have hc : [Value.slice a0 len0 cap0] = [.slice none 0 0] := hc
    cases hc
    exact ⟨none, 0, [], rfl, ⟨⟨fun q => absurd rfl q⟩, fun _ => ⟨rfl, rfl⟩⟩, fun t ht => (by cases ht), fun _ => (by simp)⟩
  · have hc : [Value.slice a0 len0 cap0] = [.slice (some a) len cap] := hc
    cases hc
    simp only [if_true] at hmm
    subst hmm
    have hlm : len0 ≤ m := hl
    have each : ∀ i, i < len0 → ∃ t : Tk, (∀ j u, (tkV t)[j]? = some u → W.cell? (a.add (i * 9 + j)) = some u) ∧ TkB t := by
      intro i hi
      obtain ⟨cs', h1, h2⟩ := hall i (by omega)
      rw [Tryz.cells45] at h1
      obtain ⟨_, hlen, hcell⟩ := World.cells?_some h1
      obtain ⟨t, rfl, hw⟩ := token_in h2
      refine ⟨t, fun j u hj => ?_, hw⟩
      have hj9 : j < 9 := by
        by_cases q : j < 9
        · exact q
        · rw [List.getElem?_eq_none (by show (tkV t).length ≤ j; show 9 ≤ j; omega)] at hj; cases hj
      have e := hcell j (by rw [show (tkV t).length = 9 from rfl] at *; omega)
      rw [Go.Deep.add_add] at e
      rw [e]
      exact hj
    obtain ⟨F, hF⟩ : ∃ F : Nat → Tk, ∀ i, i < len0 → (∀ j u, (tkV (F i))[j]? = some u → W.cell? (a.add (i * 9 + j)) = some u) ∧ TkB (F i) :=
      ⟨fun i => if h : i < len0 then Classical.choose (each i h) else tk0, fun i h => by simp only [dif_pos h]; exact Classical.choose_spec (each i h)⟩
    refine ⟨some a, m, (List.range len0).map F, by simp, ⟨⟨fun hne => ?_⟩, fun q => (by cases q)⟩, fun t ht => ?_, fun hw => ?_⟩
    · have h0 : 0 < len0 := by
        by_cases q : 0 < len0
        · exact q
        · have : len0 = 0 := by omega
          subst this
          exact absurd rfl hne
      obtain ⟨g, off, spot⟩ := a
      have hspot : spot = none := by simpa [Addr.add] using World.cell?_spot ((hF 0 h0).1 0 _ rfl)
      subst hspot
      refine ⟨g, off, rfl, World.block_lt_of_cell? W _ ((hF 0 h0).1 0 _ rfl), fun j nd hj => ?_⟩
      rw [List.getElem?_map] at hj
      have hj2 : j < len0 := by
        by_cases q : j < len0
        · exact q
        · rw [List.getElem?_eq_none (by simp; omega)] at hj; cases hj
      rw [List.getElem?_range hj2] at hj
      cases hj
      have key : ∀ i u, (tkV (F j))[i]? = some u → W.cell? ⟨g, off + j * 9 + i, none⟩ = some u := fun i u hu => by
        have e := (hF j hj2).1 i u hu
        rw [Addr.add_lit, ← Nat.add_assoc] at e
        exact e
      exact ⟨key 0 _ rfl, key 1 _ rfl, key 2 _ rfl, key 3 _ rfl, key 4 _ rfl, key 5 _ rfl, key 6 _ rfl, key 7 _ rfl, key 8 _ rfl⟩
    · obtain ⟨i, hi, rfl⟩ := List.mem_map.1 ht
      exact (hF i (List.mem_range.1 hi)).2
    · have hd : d = .slice ((List.range len0).map D) ((List.range (m - len0)).map fun j => D (len0 + j)) := congrArg Prod.fst hx
      rw [hd] at hw
      simp only [DataW.weights, Tryz.underlying22] at hw
      have := hw _ (List.mem_cons_self ..)
      rw [Tryz.bytes45, hr] at this
      simp only [List.length_map, List.length_range] at this ⊢
      omega
end Go.Proofs.YthffklhojdldkaaGreatDoor

namespace Go.Proofs.YthffklhojdldkaaGreatDoor
open Go.ChangeShapes Go.WideShapes Go.ChangeAt Go.RowKit
theorem own : ownKnob Tryz.prog.godebug = none := by kernel_rfl
theorem laidOut : laidOutB Tryz.prog = true := by kernel_rfl
theorem gTab : Tryz.prog.globalNamed "harrow/token.signs" = some 0 := by kernel_rfl
theorem gTabType : (Tryz.prog.globals[0]?).map (·.type) = some 97 := by kernel_rfl
theorem gPow : Tryz.prog.globalNamed "internal/strconv.uint64pow10" = some 1 := by kernel_rfl
theorem g64 : Tryz.prog.globalNamed "math/bits.deBruijn64tab" = some 3 := by kernel_rfl
theorem Tryz.cells96 : Tryz.prog.cellsOf 96 = 2 := by kernel_rfl
theorem Tryz.cellsInt : Tryz.prog.cellsOf 3 = 1 := by kernel_rfl
theorem Tryz.cellsStr : Tryz.prog.cellsOf 9 = 1 := by kernel_rfl
set_option maxRecDepth 100000 in
theorem run_trod {H : Type} {enc : TypeId × Value → H} {W : World} {base fuel : Nat} {sp : Nat → Bool} {held : Bool} {cs : List Value} {z : DataW H × List MemPlace}
    (h : DataW.trod enc Tryz.prog W base sp held fuel 96 cs = some z) : ∃ a s, cs = [.int .i64 a, .string s] ∧ z.1 = .agg [.lit (.int .i64 a), .lit (.string s.data.toList)] := by
  obtain ⟨y0, y1, n, rfl, hl, h0, h1⟩ := trod_struct2 Tryz.underlying96 h
  rw [Tryz.cells96] at hl
  match cs, hl with
  | [c0, c1], _ =>
    dsimp only at h0 h1
    rw [Tryz.cellsInt] at h0
    rw [Tryz.cellsStr] at h1
    obtain ⟨a, e0, e0', _⟩ := DataW.trod_int Tryz.underlying3 h0
    obtain ⟨b, e1, e1', _⟩ := DataW.trod_string Tryz.underlying9 h1
    have e0 : [c0] = [Value.int .i64 a] := e0
    have e1 : [c1] = [Value.string b] := e1
    cases e0
    cases e1
    exact ⟨a, b, rfl, by rw [e0', e1']⟩
theorem tab_laid {H : Type} : (Rows.laid_harrow_token_signs : DataW H) = .agg (sgTab.map fun p => .agg [.lit (.int .i64 p.1), .lit (.string p.2)]) := rfl
theorem tab_get : ∀ (i : Nat) v, tabL[i]? = some v → ∃ j p, sgTab[j]? = some p ∧ ((i = 2 * j ∧ v = .int .i64 p.1) ∨ (i = 2 * j + 1 ∧ v = .string ⟨p.2.toArray⟩)) := by
  have key : ∀ (l : List (Int × List UInt8)) (i : Nat) (v : Value), (l.flatMap fun p => [Value.int .i64 p.1, .string ⟨p.2.toArray⟩])[i]? = some v → ∃ j p, l[j]? = some p ∧ ((i = 2 * j ∧ v = .int .i64 p.1) ∨ (i = 2 * j + 1 ∧ v = .string ⟨p.2.toArray⟩)) := by
    intro l
    induction l with
    | nil => intro i v h; simp at h
    | cons p l ih =>
      intro i v h
      rw [List.flatMap_cons] at h
      match i, h with
      | 0, h => exact ⟨0, p, rfl, .inl ⟨rfl, by simpa using h.symm⟩⟩
      | 1, h => exact ⟨0, p, rfl, .inr ⟨rfl, by simpa using h.symm⟩⟩
      | i + 2, h =>
        obtain ⟨j, q, h1, h2⟩ := ih i v (by simpa using h)
        exact ⟨j + 1, q, by simpa using h1, by
          rcases h2 with ⟨x, y⟩ | ⟨x, y⟩
          · exact .inl ⟨by omega, y⟩
          · exact .inr ⟨by omega, y⟩⟩
  exact key sgTab
theorem sg_of_vars {W : World} {ps : List MemPlace} (h : DataW.LaidVars Tryz.prog W [("harrow/token.signs", Rows.laid_harrow_token_signs)] ps) : SG W := by
  obtain ⟨g', t', cs, fuel, p, q, hg', ht', hvar, hd, _, _⟩ := h
  obtain rfl := Option.some.inj (gTab.symm.trans hg')
  obtain rfl := Option.some.inj (gTabType.symm.trans ht')
  obtain ⟨xs, m, rfl, hx, hl, hn, hel⟩ := DataW.trod_array Tryz.underlying97 hd
  have hx1 := congrArg Prod.fst hx
  dsimp only at hx1
  rw [tab_laid] at hx1
  injection hx1 with hx1
  rw [Tryz.cells96] at hel
  have hcell := World.var?_cell gTab hvar
  have key : ∀ j p, sgTab[j]? = some p → W.cell? ⟨0, 2 * j, none⟩ = some (.int .i64 p.1) ∧ W.cell? ⟨0, 2 * j + 1, none⟩ = some (.string ⟨p.2.toArray⟩) := fun j p hp => by
    have hj : j < 24 := (List.getElem?_eq_some_iff.1 hp).1
    have k0 := hel j hj
    obtain ⟨x, hxj⟩ : ∃ x, xs[j]? = some x := ⟨_, List.getElem?_eq_getElem (by omega)⟩
    rw [hxj] at k0
    obtain ⟨a, s, e1, e2⟩ := run_trod k0
    have h3 : (xs.map (·.1))[j]? = some x.1 := by rw [List.getElem?_map, hxj]; rfl
    rw [← hx1, List.getElem?_map, hp] at h3
    have h3 : DataW.agg [.lit (.int .i64 p.1), .lit (.string p.2)] = x.1 := Option.some.inj h3
    rw [e2] at h3
    injection h3 with h3
    injection h3 with h4 h5
    injection h5 with h5 _
    injection h4 with h4
    injection h4 with h4 h4
    injection h5 with h5
    injection h5 with h5
    have hs : s = ⟨p.2.toArray⟩ := by rw [h5]
    have c0 : cs.toList[2 * j]? = some (.int .i64 p.1) := by
      have := congrArg (fun l => l[0]?) e1
      simp only [List.getElem?_take, List.getElem?_drop, List.getElem?_cons_zero] at this
      rw [if_pos (by omega), show j * 2 + 0 = 2 * j from by omega, ← h4] at this
      exact this
    have c1 : cs.toList[2 * j + 1]? = some (.string ⟨p.2.toArray⟩) := by
      have := congrArg (fun l => l[1]?) e1
      simp only [List.getElem?_take, List.getElem?_drop, List.getElem?_cons_succ, List.getElem?_cons_zero] at this
      rw [if_pos (by omega), show j * 2 + 1 = 2 * j + 1 from by omega, hs] at this
      exact this
    exact ⟨(hcell (2 * j)).trans (by simpa using c0), (hcell (2 * j + 1)).trans (by simpa using c1)⟩
  refine ⟨World.block_lt_of_cell? W _ (key 0 _ rfl).1, fun i v hv => ?_⟩
  obtain ⟨j, p, hp, hor⟩ := tab_get i v hv
  obtain ⟨h1, h2⟩ := key j p hp
  rw [Nat.zero_add]
  rcases hor with ⟨rfl, rfl⟩ | ⟨rfl, rfl⟩
  · exact h1
  · exact h2
theorem tab_of_vars {P : Program} {W : World} {name : String} {k : IntKind} {zs : List Int} {rest : List (String × DataW Unit)} {ps : List MemPlace} {g : Nat} {t e : TypeId} {n : Nat}
    (hg : P.globalNamed name = some g) (hty : (P.globals[g]?).map (·.type) = some t) (ht : P.underlying t = some (.array n e)) (he : P.underlying e = some (.int k)) (hce : P.cellsOf e = 1) (hct : P.cellsOf t = n)
    (h : DataW.LaidVars P W ((name, Lib.tabData k zs) :: rest) ps) : Lib.TabIs P W name k zs := by
  obtain ⟨g', t', cs, fuel, p, q, hg', ht', hvar, hd, _, _⟩ := h
  obtain rfl := Option.some.inj (hg.symm.trans hg')
  obtain rfl := Option.some.inj (hty.symm.trans ht')
  unfold Lib.TabIs
  rw [hvar, ← Lib.cells_of_tab ht he hce hct hd]
theorem vars_tail {P : Program} {W : World} {x : String × DataW Unit} {r : List (String × DataW Unit)} {ps : List MemPlace} (h : DataW.LaidVars P W (x :: r) ps) : ∃ q, DataW.LaidVars P W r q := by
  obtain ⟨_, _, _, _, _, q, _, _, _, _, hq, _⟩ := h
  exact ⟨q, hq⟩
def d64L : List Int := [0, 1, 56, 2, 57, 49, 28, 3, 61, 58, 42, 50, 38, 29, 17, 4, 62, 47, 59, 36, 45, 43, 51, 22, 53, 39, 33, 30, 24, 18, 12, 5, 63, 55, 48, 27, 60, 41, 37, 16, 46, 35, 44, 21, 52, 32, 23, 11, 54, 26, 40, 15, 34, 20, 31, 10, 25, 14, 19, 9, 13, 8, 7, 6]
abbrev laidL : List (String × DataW Unit) := [("math/bits.deBruijn32tab", Rows.laid_math_bits_deBruijn32tab), ("math/bits.deBruijn64tab", Rows.laid_math_bits_deBruijn64tab), ("internal/strconv.uint64pow10", Rows.laid_internal_strconv_uint64pow10), ("harrow/token.signs", Rows.laid_harrow_token_signs)]
theorem l64_eq {H : Type} : (Rows.laid_math_bits_deBruijn64tab : DataW H) = Lib.tabData .u8 d64L := rfl
theorem lPow_eq {H : Type} : (Rows.laid_internal_strconv_uint64pow10 : DataW H) = Lib.tabData .u64 Lib.pow10Tab := rfl
theorem gw_of_laid {W : World} (h : laidMetH Tryz.prog laidL W) : GW W := by
  have h : laidMet Tryz.prog laidL W := h
  obtain ⟨ps, h1, _⟩ := h
  obtain ⟨q2, h2⟩ := vars_tail h1
  obtain ⟨q3, h3⟩ := vars_tail h2
  obtain ⟨q4, h4⟩ := vars_tail h3
  rw [l64_eq] at h2
  rw [lPow_eq] at h3
  have t2 := tab_of_vars g64 (by kernel_rfl) Tryz.underlying136 Tryz.underlying5 (by kernel_rfl) (by kernel_rfl) h2
  have t3 := tab_of_vars gPow (by kernel_rfl) Tryz.underlying126 Tryz.underlying41 (by kernel_rfl) (by kernel_rfl) h3
  have c := t2.cell g64 15 (by decide)
  exact ⟨sg_of_vars h4, ⟨World.block_lt_of_cell? W _ c, c⟩, t3⟩
/-- A world with the tables laid. -/
def layAt (k : Nat) (cs : Array Value) (w : World) : World := { w with heap := w.heap.modify k fun
      | .cells _ t frozen => .cells cs t frozen
      | o => o }
def layTab (w : World) : World := layAt 3 #[.int .u8 0, .int .u8 1, .int .u8 56, .int .u8 2, .int .u8 57, .int .u8 49, .int .u8 28, .int .u8 3, .int .u8 61, .int .u8 58, .int .u8 42, .int .u8 50, .int .u8 38, .int .u8 29, .int .u8 17, .int .u8 4, .int .u8 62, .int .u8 47, .int .u8 59, .int .u8 36, .int .u8 45, .int .u8 43, .int .u8 51, .int .u8 22, .int .u8 53, .int .u8 39, .int .u8 33, .int .u8 30, .int .u8 24, .int .u8 18, .int .u8 12, .int .u8 5, .int .u8 63, .int .u8 55, .int .u8 48, .int .u8 27, .int .u8 60, .int .u8 41, .int .u8 37, .int .u8 16, .int .u8 46, .int .u8 35, .int .u8 44, .int .u8 21, .int .u8 52, .int .u8 32, .int .u8 23, .int .u8 11, .int .u8 54, .int .u8 26, .int .u8 40, .int .u8 15, .int .u8 34, .int .u8 20, .int .u8 31, .int .u8 10, .int .u8 25, .int .u8 14, .int .u8 19, .int .u8 9, .int .u8 13, .int .u8 8, .int .u8 7, .int .u8 6] (layAt 2 #[.int .u8 0, .int .u8 1, .int .u8 28, .int .u8 2, .int .u8 29, .int .u8 14, .int .u8 24, .int .u8 3, .int .u8 30, .int .u8 22, .int .u8 20, .int .u8 15, .int .u8 25, .int .u8 17, .int .u8 4, .int .u8 8, .int .u8 31, .int .u8 27, .int .u8 13, .int .u8 23, .int .u8 21, .int .u8 19, .int .u8 16, .int .u8 7, .int .u8 26, .int .u8 12, .int .u8 18, .int .u8 6, .int .u8 11, .int .u8 5, .int .u8 10, .int .u8 9] (layAt 1 #[.int .u64 1, .int .u64 10, .int .u64 100, .int .u64 1000, .int .u64 10000, .int .u64 100000, .int .u64 1000000, .int .u64 10000000, .int .u64 100000000, .int .u64 1000000000, .int .u64 10000000000, .int .u64 100000000000, .int .u64 1000000000000, .int .u64 10000000000000, .int .u64 100000000000000, .int .u64 1000000000000000, .int .u64 10000000000000000, .int .u64 100000000000000000, .int .u64 1000000000000000000, .int .u64 10000000000000000000] (layAt 0 #[.int .i64 29, .string ⟨#[37, 101]⟩, .int .i64 30, .string ⟨#[37, 102]⟩, .int .i64 14, .string ⟨#[94, 43]⟩, .int .i64 15, .string ⟨#[94, 45]⟩, .int .i64 13, .string ⟨#[94]⟩, .int .i64 6, .string ⟨#[60, 45]⟩, .int .i64 27, .string ⟨#[45, 62]⟩, .int .i64 7, .string ⟨#[47]⟩, .int .i64 8, .string ⟨#[38]⟩, .int .i64 9, .string ⟨#[33]⟩, .int .i64 10, .string ⟨#[63]⟩, .int .i64 11, .string ⟨#[42]⟩, .int .i64 12, .string ⟨#[43]⟩, .int .i64 16, .string ⟨#[40]⟩, .int .i64 17, .string ⟨#[41]⟩, .int .i64 18, .string ⟨#[46]⟩, .int .i64 21, .string ⟨#[123, 58]⟩, .int .i64 22, .string ⟨#[58, 125]⟩, .int .i64 23, .string ⟨#[123, 124]⟩, .int .i64 24, .string ⟨#[124, 125]⟩, .int .i64 25, .string ⟨#[123, 126]⟩, .int .i64 26, .string ⟨#[126, 125]⟩, .int .i64 19, .string ⟨#[123]⟩, .int .i64 20, .string ⟨#[125]⟩] w)))
end Go.Proofs.YthffklhojdldkaaGreatDoor
