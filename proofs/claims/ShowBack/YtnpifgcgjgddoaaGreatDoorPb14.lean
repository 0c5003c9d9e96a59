/- DERIVED. Plain mathematics and walks, laid together (14). -/
import Derived.Laws.OwnMore
import Derived.Deep.RegionHeld3
import Derived.Test.YtnpifgcgjgddoaaGreatDoorPb13
set_option maxRecDepth 100000
set_option maxHeartbeats 8000000
namespace Go.Proofs.YtnpifgcgjgddoaaGreatDoor.Q
open Go.RowKit
theorem zaS (w : World) (o : Obj) : Below w.heap.size w (w.alloc o) := (Below.refl _ _).alloc (Nat.le_refl _) _
theorem zht (l : List Int) (hl : l.length <= 100) (w : World) : (w.alloc (.cells (l.map (Value.int .u8)).toArray 5)).ownsRow w.heap.size 5 1 (.slice (some ⟨w.heap.size, 0, none⟩) l.length l.length) l.length (l.map (Value.int .u8)) := by
 have h := World.ownsRow_lit (e := 5) (size := 1) (base := w.heap.size) w (l.map (Value.int .u8)).toArray l.length (Nat.le_refl _) (by unfold maxLen; omega) (by simp)
 simpa using h
theorem zmp (c : Int) (w : World) : (convert 55 9 (.slice (some ⟨w.heap.size, 0, none⟩) 1 1)).run Tryz.prog (w.alloc (.cells #[.int .u8 c] 5)) = .ok (.string (zae [c])) (w.alloc (.cells #[.int .u8 c] 5)) :=
 zd6 (l := [c]) (zht [c] (by simp) w)
theorem conv2 (c d : Int) (w : World) : (convert 55 9 (.slice (some ⟨w.heap.size, 0, none⟩) 2 2)).run Tryz.prog (w.alloc (.cells #[.int .u8 c, .int .u8 d] 5)) = .ok (.string (zae [c, d])) (w.alloc (.cells #[.int .u8 c, .int .u8 d] 5)) :=
 zd6 (l := [c, d]) (zht [c, d] (by simp) w)
theorem conv4d (a b c d : Int) (w : World) : (convert 55 9 (.slice (some ⟨w.heap.size, 0, none⟩) 4 4)).run Tryz.prog (w.alloc (.cells #[.int .u8 a, .int .u8 b, .int .u8 c, .int .u8 d] 5)).drew = .ok (.string (zae [a, b, c, d])) (w.alloc (.cells #[.int .u8 a, .int .u8 b, .int .u8 c, .int .u8 d] 5)).drew :=
 zd6 (l := [a, b, c, d]) (w := (w.alloc (.cells #[.int .u8 a, .int .u8 b, .int .u8 c, .int .u8 d] 5)).drew) (base := w.heap.size) (zht [a, b, c, d] (by simp) w)
theorem zoi : ∀ m : Fin 16, ((digs[m.val]'m.isLt).toNat : Int) = zbZ (m.val : Int) := by decide +kernel
theorem zk1 (b : Nat) (hb : b < 256) (w : World) (h1 : ((b : Int) == 10) = false) (h2 : ((b : Int) == 13) = false) (h3 : ((b : Int) == 9) = false) (h4 : ((b : Int) == 39) = false) (h5 : ((b : Int) == 92) = false) (h6 : ¬ (32 <= (b : Int) /\ (b : Int) <= 126)) :
  Calls Tryz.prog 124 #[.int .u8 b] w fun e w' => e = .returned (.string (zae [92, 120, zbZ ((b : Int) / 16), zbZ ((b : Int) % 16)])) /\ Below w.heap.size w w' := by
 have t1 : IntKind.u8.wrap ((b : Int) / 16) = ((b / 16 : Nat) : Int) := by rw [IntKind.wrap_u8']; omega
 have t2 : IntKind.u8.wrap ((b : Int) % 16) = ((b % 16 : Nat) : Int) := by rw [IntKind.wrap_u8']; omega
 have t3 : (b : Int) / 16 = ((b / 16 : Nat) : Int) := by omega
 have t4 : (b : Int) % 16 = ((b % 16 : Nat) : Int) := by omega
 have k0 : (0 : Int) <= ((b / 16 : Nat) : Int) := by omega
 have k1 : ((b / 16 : Nat) : Int) < 16 := by omega
 have k2 : (0 : Int) <= ((b % 16 : Nat) : Int) := by omega
 have k3 : ((b % 16 : Nat) : Int) < 16 := by omega
 have q1 : b / 16 < 16 := by omega
 have q2 : b % 16 < 16 := by omega
 have hcv := conv4d 92 120 ((digs[b / 16]'q1).toNat : Int) ((digs[b % 16]'q2).toNat : Int) w
 have HR : Hid (zae [92, 120, zbZ ((b : Int) / 16), zbZ ((b : Int) % 16)] = zae [92, 120, ((digs[b / 16]'q1).toNat : Int), ((digs[b % 16]'q2).toNat : Int)]) := (by
  show _ = _
  rw [t3, t4, <- zoi ⟨b / 16, q1⟩, <- zoi ⟨b % 16, q2⟩])
 rw [HR.out]
 clear HR
 have hg : ¬ 32 <= (b : Int) ∨ (32 <= (b : Int) /\ ¬ (b : Int) <= 126) := by omega
 clear h6
 generalize b / 16 = m at *
 generalize b % 16 = n at *
 rcases hg with hg | ⟨hg, hg2⟩
 all_goals
  go_enter Tryz.func124, Tryz.ntmps124
  go_wp2_with fail
  go_region
  all_goals
   go_wp2
   go_ret
   exact ⟨rfl, (zaS _ _).drew⟩
theorem zk2 (b : Nat) (hb : b < 256) (w : World) :
  Calls Tryz.prog 124 #[.int .u8 b] w fun e w' => e = .returned (.string (zae (shB b))) /\ Below w.heap.size w w' := by
 unfold shB
 by_cases h1 : (b : Int) = 10
 ·rw [if_pos h1]
  have e1 : ((b : Int) == 10) = true := beq_iff_eq.2 h1
  clear h1
  go_enter Tryz.func124, Tryz.ntmps124
  go_wp2
  go_ret
  exact ⟨rfl, Below.refl _ _⟩
 rw [if_neg h1]
 have e1 : ((b : Int) == 10) = false := bF h1
 by_cases h2 : (b : Int) = 13
 ·rw [if_pos h2]
  have e2 : ((b : Int) == 13) = true := beq_iff_eq.2 h2
  clear h1 h2
  go_enter Tryz.func124, Tryz.ntmps124
  go_wp2
  go_ret
  exact ⟨rfl, Below.refl _ _⟩
 rw [if_neg h2]
 have e2 : ((b : Int) == 13) = false := bF h2
 by_cases h3 : (b : Int) = 9
 ·rw [if_pos h3]
  have e3 : ((b : Int) == 9) = true := beq_iff_eq.2 h3
  clear h1 h2 h3
  go_enter Tryz.func124, Tryz.ntmps124
  go_wp2
  go_ret
  exact ⟨rfl, Below.refl _ _⟩
 rw [if_neg h3]
 have e3 : ((b : Int) == 9) = false := bF h3
 by_cases h4 : (b : Int) = 39 ∨ (b : Int) = 92
 ·rw [if_pos h4]
  have hg : ((b : Int) == 39) = true ∨ (((b : Int) == 39) = false /\ ((b : Int) == 92) = true) := by
   rcases h4 with h | h
   ·exact .inl (beq_iff_eq.2 h)
   ·exact .inr ⟨bF (by omega), beq_iff_eq.2 h⟩
  have hcv := conv2 92 (b : Int) w
  clear h1 h2 h3 h4
  rcases hg with e4 | ⟨e4, e5⟩
  all_goals
   go_enter Tryz.func124, Tryz.ntmps124
   go_wp2
   go_ret
   exact ⟨rfl, zaS _ _⟩
 rw [if_neg h4]
 have e4 : ((b : Int) == 39) = false := bF (by omega)
 have e5 : ((b : Int) == 92) = false := bF (by omega)
 by_cases h5 : 32 <= (b : Int) /\ (b : Int) <= 126
 ·rw [if_pos h5]
  obtain ⟨h6, h7⟩ := h5
  have hcv := zmp (b : Int) w
  clear h1 h2 h3 h4
  go_enter Tryz.func124, Tryz.ntmps124
  go_wp2
  go_ret
  exact ⟨rfl, zaS _ _⟩
 rw [if_neg h5]
 exact zk1 b hb w e1 e2 e3 e4 e5 h5
theorem zds {w w' : World} {b : Nat} {bs : List Value} (h : Lib.IsBuilder 57 5 b b bs w) (hb : Below w.heap.size w w') : Lib.IsBuilder 57 5 b b bs w' := by
 have key : ∀ p, Lib.BuilderAt 57 5 b b p bs w -> Lib.BuilderAt 57 5 b b p bs w' := fun p hp => by
  have hlt := hp.lt
  obtain ⟨hB, v, hbk, hown, hne⟩ := hp
  exact ⟨hB, v, (hb.block b hlt).trans hbk, zaX hown hb, hne⟩
 exact h.imp (key _) (key _)
theorem ziq {s : ByteArray} (h : 65536 < s.size ∨ 65536 < (qT s).length) : quV s = .tuple #[.string ⟨#[]⟩, .int .i64 2] := by unfold quV; rw [if_pos h]
theorem zfT {s : ByteArray} (h : ¬ (65536 < s.size ∨ 65536 < (qT s).length)) : quV s = .tuple #[.string (zae (qT s)), .int .i64 0] := by unfold quV; rw [if_neg h]
theorem zgE (s : ByteArray) (w : World) :
  Calls Tryz.prog 100 #[.string s] w fun e w' => e = .returned (quV s) /\ Below w.heap.size w w' := by
 by_cases h : 65536 < s.size
 ·have HE := hO (ziq (.inl h))
  have h1 : (65536 : Int) < (s.size : Int) := by omega
  go_enter Tryz.func100, Tryz.ntmps100
  go_wp2
  go_ret2
  exact ⟨by rw [HE.out]; rfl, Below.refl _ _⟩
 ·have h1 : ¬ (65536 : Int) < (s.size : Int) := by omega
  have t1 : decide ((65536 : Int) < (s.size : Int)) = false := decide_eq_false (by omega)
  have HK := hO (Lib.fresh_isBuilder 57 5 w)
  have HB := hO (zaS w (.cells #[.pointer none, .slice none 0 0] 57))
  go_enter Tryz.func100, Tryz.ntmps100
  go_wp2_with fail
  refine (zbl w.heap.size [] 39 _ HK.out (by simp)).mono ?_
  rintro e w1 ⟨rfl, hk1, hb1, _⟩
  have HK1 : Hid (Lib.IsBuilder 57 5 w.heap.size w.heap.size ((qTo s 0).map (Value.int .u8)) w1) := hk1
  have HB1 := hO (HB.out.trans (hb1.mono (Nat.le_refl _)))
  clear hk1 hb1 HK HB
  go_wp2_with fail
  go_loopw [5] (fun t wr => ∃ k : Nat, k <= s.size /\ t = .int .i64 k /\ Hid (Lib.IsBuilder 57 5 w.heap.size w.heap.size ((qTo s k).map (Value.int .u8)) wr /\ Below w.heap.size w wr)) (fun t _ => s.size - (intOf t).toNat)
  case atStart => exact ⟨0, by omega, rfl, HK1.out, HB1.out⟩
  case round =>
   obtain ⟨k, hk, rfl, HI⟩ := hrel
   clear HK1 HB1
   have hql := zhd s k
   by_cases hlt : k < s.size
   ·have HS := hO (zmN s k hlt)
    have hbb : s[k].toNat < 256 := s[k].toNat_lt
    have HW : Hid (∀ w, Calls Tryz.prog 124 #[.int .u8 (s[k].toNat : Int)] w fun e w' => e = .returned (.string (zae (shB (s[k].toNat : Int)))) /\ Below w.heap.size w w') := fun w => zk2 _ hbb w
    have HT : Hid ((zae (shB (s[k].toNat : Int))).size <= 4) := (by show _ <= 4; rw [zao]; exact (zhb _).2)
    have HC : Hid (Lib.strCells (zae (shB (s[k].toNat : Int))) = (shB (s[k].toNat : Int)).map (Value.int .u8)) := zfF (zks (by omega) (by omega))
    go_wp2_with fail
    refine (HW.out _).mono ?_
    rintro e w2 ⟨rfl, hb2⟩
    have HJ := hO ((⟨zds HI.out.1 hb2, HI.out.2.trans (hb2.mono HI.out.2.size)⟩ : _ /\ _))
    clear hb2 HI HW
    go_wp2_with fail
    refine (zbO w.heap.size _ _ _ HJ.out.1 (by have h := HT.out; rw [List.length_map]; omega)).mono ?_
    rintro e w3 ⟨rfl, hk3, hb3, _⟩
    have HI3 := (show Hid (Lib.IsBuilder 57 5 w.heap.size w.heap.size ((qTo s (k + 1)).map (Value.int .u8)) w3 /\ Below w.heap.size w w3) from (by
     refine ⟨?_, HJ.out.2.trans (hb3.mono (Nat.le_refl _))⟩
     rw [HS.out, List.map_append, <- HC.out]
     exact hk3))
    clear hk3 hb3 HJ
    go_wp2
    go_roundw
    case rel => exact ⟨k + 1, by omega, by go_num, HI3⟩
    case measure => simp [intOf]; omega
   ·have HA := hO (zhc s k (by omega))
    go_wp2_with fail
    refine (zbl w.heap.size _ 39 _ HI.out.1 (by rw [List.length_map]; omega)).mono ?_
    rintro e w3 ⟨rfl, hk3, hb3, _⟩
    have HI3 := (show Hid (Lib.IsBuilder 57 5 w.heap.size w.heap.size ((qT s).map (Value.int .u8)) w3 /\ Below w.heap.size w w3) from (by
     refine ⟨?_, HI.out.2.trans (hb3.mono (Nat.le_refl _))⟩
     rw [<- HA.out, List.map_append]
     exact hk3))
    clear hk3 hb3 HI HA
    go_wp2_with fail
    refine (Tryz.Builder_Len w.heap.size w.heap.size _ _ HI3.out.1).mono ?_
    rintro e w4 ⟨rfl, rfl⟩
    rw [List.length_map]
    by_cases hq : 65536 < (qT s).length
    ·have HE := hO (ziq (.inr hq))
     have hqI : (65536 : Int) < ((qT s).length : Int) := by omega
     go_wp2
     go_ret2
     exact ⟨by rw [HE.out]; rfl, HI3.out.2⟩
    ·have HE := hO (zfT (s := s) (by omega))
     have hqI : ¬ (65536 : Int) < ((qT s).length : Int) := by omega
     have HX := (show Hid (Lib.IsBuilder 57 5 w.heap.size w.heap.size (Lib.byteCells ((qT s).map fun n => UInt8.ofNat n.toNat)) w4) from (by
      show Lib.IsBuilder _ _ _ _ _ _
      rw [zia (zpA s)]
      exact HI3.out.1))
     clear hq
     generalize (qT s).length = L at *
     go_wp2_with fail
     refine (Tryz.Builder_String_any w.heap.size w.heap.size _ _ HX.out HI3.out.2.size).mono ?_
     rintro e w5 ⟨rfl, hb5⟩
     go_wp2
     go_ret2
     exact ⟨by rw [HE.out, zce]; rfl, HI3.out.2.trans hb5⟩
end Go.Proofs.YtnpifgcgjgddoaaGreatDoor.Q
namespace Go.Proofs.YtnpifgcgjgddoaaGreatDoor
open Go.RowKit
def mkS (a b c d : Int) : BitVec 256 := BitVec.ofNat 256 (a.toNat + 2 ^ 64 * (b.toNat + 2 ^ 64 * (c.toNat + 2 ^ 64 * d.toNat)))
theorem zoj (a b c d : Int) (ha : 0 <= a /\ a < 18446744073709551616) (hb : 0 <= b /\ b < 18446744073709551616) (hc : 0 <= c /\ c < 18446744073709551616) (hd : 0 <= d /\ d < 18446744073709551616) :
  wd (mkS a b c d) 0 = a /\ wd (mkS a b c d) 1 = b /\ wd (mkS a b c d) 2 = c /\ wd (mkS a b c d) 3 = d := by
 unfold mkS
 simp only [wd, BitVec.extractLsb'_toNat, BitVec.toNat_ofNat, Nat.shiftRight_eq_div_pow]
 refine ⟨?_, ?_, ?_, ?_⟩ <;> omega
def txO (l : List UInt8) : ByteArray := ⟨l.toArray⟩
def rnT (a b : Nat) : ByteArray := ⟨#[37, 117, 123]⟩ ++ txO (dgT 16 a) ++ ⟨#[45]⟩ ++ txO (dgT 16 b) ++ ⟨#[125]⟩
def tkX (t : Tk) : ByteArray :=
 if t.kd = 1 then t.tx else if t.kd = 21 then ⟨#[123, 58]⟩ ++ gnm t.tx else if t.kd = 2 then Q.zae (Q.qT t.tx) else
 if t.kd = 3 then txO (shT (mkS t.s0 t.s1 t.s2 t.s3)) else if t.kd = 28 then ⟨#[37]⟩ ++ t.tx else if t.kd = 5 then rnT t.nn.toNat t.s0.toNat else
 if t.kd = 4 then txO (dgT 10 t.nn.toNat) else if t.kd = 13 then ⟨#[94]⟩ ++ txO (dgT 10 t.nn.toNat) else if t.kd = 14 then ⟨#[94, 43]⟩ ++ txO (dgT 10 t.nn.toNat) else
 if t.kd = 15 then ⟨#[94, 45]⟩ ++ txO (dgT 10 t.nn.toNat) else if t.kd = 29 then ⟨#[37, 101]⟩ else if t.kd = 30 then ⟨#[37, 102]⟩ else txO (sgn t.kd.toNat)
theorem ri_nat {t : Tk} (h : riF t = true) : 1 <= t.kd /\ t.kd <= 30 /\ txF t.kd t.tx = true /\ 0 <= t.nn /\ t.nn <= (if t.kd = 5 then t.s0 else gtK t.kd) /\ seF t.kd t.tx t.s0 t.s1 t.s2 t.s3 = true := by
 unfold riF nbF at h
 simp only [Bool.and_eq_true, decide_eq_true_eq] at h
 obtain ⟨⟨⟨⟨h1, h2⟩, h3⟩, h4, h5⟩, h6⟩ := h
 exact ⟨h1, h2, h3, h4, h5, h6⟩
theorem zbs {s : ByteArray} (h : zeK s = true) : 0 < s.size /\ s.size <= 32 := by
 unfold zeK at h
 simp only [Bool.and_eq_true, decide_eq_true_eq] at h
 exact ⟨h.1.1.1, h.1.1.2⟩
theorem zfU {s : ByteArray} (h : (s.toList == []) = true) : s.size = 0 := by
 have h := beq_iff_eq.1 h
 rw [ByteArray.toList_eq] at h
 have : s.data.toList.length = 0 := by rw [h]; rfl
 exact this
theorem zqc {k : Int} {s : ByteArray} (h : txF k s = true) : s.size <= 255 := by
 unfold txF at h
 split at h
 ·have := zbs h; omega
 split at h
 ·rcases Bool.or_eq_true_iff.1 h with h | h
  ·have := zfU h; omega
  ·have := zbs h; omega
 split at h
 ·have := of_decide_eq_true h; omega
 split at h
 ·have := beq_iff_eq.1 h; omega
 ·have := zfU h; omega
theorem zqd {k s0 s1 s2 s3 : Int} {s : ByteArray} (hk : k = 5) (h : seF k s s0 s1 s2 s3 = true) : s0 <= 1114111 := by
 subst hk
 unfold seF at h
 rw [if_neg (by omega), if_neg (by omega), if_pos rfl] at h
 simp only [Bool.and_eq_true, decide_eq_true_eq] at h
 exact h.1
theorem zdv (l : List UInt8) : (txO l).size = l.length := by show l.toArray.size = _; simp
theorem zqe (x : BitVec 256) : (shT x).length <= 2306 := by
 unfold shT
 split
 ·simp
 ·have h1 := zd7 (spL (bys x))
  have h2 := zdG x
  simp only [List.length_append, List.length_cons, List.length_nil]
  omega
theorem zcs : ∀ d : Fin 16, zbd ((zbZ d.val).toNat : Int) = (d.val : Int) /\ hxB ((zbZ d.val).toNat : Int) = true /\ (d.val < 10 -> dgB ((zbZ d.val).toNat : Int) = true) /\ (((zbZ d.val).toNat : Int) = 48 -> d.val = 0) := by decide
theorem zqf (b : Nat) (hb : 2 <= b) (hb2 : b <= 16) (n : Nat) : ∀ x ∈ dgT b n, ∃ d, d < b /\ x = zbZ d := by
 induction n using Nat.strongRecOn with
 | _ n ih =>
  intro x hx
  by_cases h : n < b
  ·rw [zeD h] at hx
   exact ⟨n, h, by simpa using hx⟩
  ·rw [zgD hb h] at hx
   rcases List.mem_append.1 hx with h1 | h1
   ·exact ih (n / b) (zdu hb h) x h1
   ·exact ⟨n % b, Nat.mod_lt _ (by omega), by simpa using h1⟩
theorem zk3 (b : Nat) (hb : 2 <= b) (n : Nat) (hn : 0 < n) : ∃ d r, 0 < d /\ d < b /\ dgT b n = zbZ d :: r := by
 induction n using Nat.strongRecOn with
 | _ n ih =>
  by_cases h : n < b
  ·exact ⟨n, [], hn, h, zeD h⟩
  ·have h1 : 0 < n / b := Nat.div_pos (by omega) (by omega)
   obtain ⟨d, r, h2, h3, h4⟩ := ih (n / b) (zdu hb h) h1
   exact ⟨d, r ++ [zbZ (n % b)], h2, h3, by rw [zgD hb h, h4]; rfl⟩
theorem chL_in {l : List UInt8} {i : Nat} {x : UInt8} (h : l[i]? = some x) : chL l i = (x.toNat : Int) := by unfold chL; rw [h]
theorem zk4 {l : List UInt8} {i : Nat} (h : l.length <= i) : chL l i = -1 := by unfold chL; rw [List.getElem?_eq_none h]
theorem zir (p q : List UInt8) (i : Nat) (h : i < p.length) : chL (p ++ q) i = chL p i := by unfold chL; rw [List.getElem?_append_left h]
theorem zis (b : Nat) (hb : 2 <= b) (hb2 : b <= 16) (n i : Nat) (h : i < (dgT b n).length) : ∃ d, d < b /\ chL (dgT b n) i = ((zbZ d).toNat : Int) := by
 obtain ⟨d, h1, h2⟩ := zqf b hb hb2 n (dgT b n)[i] (List.getElem_mem h)
 exact ⟨d, h1, by rw [chL_in (List.getElem?_eq_getElem h), h2]⟩
theorem zgF (b : Nat) (hb : 2 <= b) (hb2 : b <= 16) (n : Nat) : ∀ q : List UInt8, zbj (tx8 (dgT b n ++ q)) 0 (b : Int) (dgT b n).length = (n : Int) := by
 induction n using Nat.strongRecOn with
 | _ n ih =>
  intro q
  by_cases h : n < b
  ·rw [zeD h]
   have e : chr (tx8 ([zbZ n] ++ q)) 0 = ((zbZ n).toNat : Int) := by rw [zay]; rfl
   show (0 : Int) * b + zbd (chr (tx8 ([zbZ n] ++ q)) 0) = n
   rw [e, (zcs ⟨n, by omega⟩).1]
   show (0 : Int) * b + (n : Int) = n
   rw [Int.zero_mul, Int.zero_add]
  ·have hd := zgD hb h
   have h2 := ih (n / b) (zdu hb h) ([zbZ (n % b)] ++ q)
   have hm : n % b < b := Nat.mod_lt _ (by omega)
   rw [hd, List.append_assoc, List.length_append, List.length_singleton]
   show zbj _ 0 (b : Int) (dgT b (n / b)).length * b + zbd (chr _ (0 + (dgT b (n / b)).length)) = n
   rw [h2, Nat.zero_add, at0]
   have e : chL ([zbZ (n % b)] ++ q) 0 = ((zbZ (n % b)).toNat : Int) := rfl
   rw [e, (zcs ⟨n % b, by omega⟩).1]
   show ((n / b : Nat) : Int) * (b : Int) + ((n % b : Nat) : Int) = n
   have h3 := Nat.div_add_mod n b
   have h4 : ((b * (n / b) + n % b : Nat) : Int) = (n : Int) := by rw [h3]
   rw [Int.natCast_add, Int.natCast_mul, Int.mul_comm] at h4
   exact h4
theorem zk5 (p l q : List UInt8) : Ag (tx8 l) 0 (tx8 (p ++ l ++ q)) p.length l.length := fun k hk => by
 rw [Nat.zero_add, zay, zay, List.append_assoc, zhm, zir _ _ _ hk]
theorem znq (n : Nat) : spN dgB (tx8 (dgT 10 n)) 0 = 0 + (dgT 10 n).length := by
 refine zgB (by decide) (by omega) (fun k _ hk => ?_) ?_
 ·obtain ⟨d, h1, h2⟩ := zis 10 (by omega) (by omega) n k (by omega)
  rw [zay, h2]
  exact (zcs ⟨d, by omega⟩).2.2.1 h1
 ·rw [zay, zk4 (by omega)]; decide
theorem run16 (n : Nat) : spN hxB (tx8 (dgT 16 n)) 0 = 0 + (dgT 16 n).length := by
 refine zgB (by decide) (by omega) (fun k _ hk => ?_) ?_
 ·obtain ⟨d, h1, h2⟩ := zis 16 (by omega) (by omega) n k (by omega)
  rw [zay, h2]
  exact (zcs ⟨d, by omega⟩).2.1
 ·rw [zay, zk4 (by omega)]; decide
theorem num10 (n : Nat) (most : Int) (h1 : n <= 999999) (h2 : (n : Int) <= most) : zde (tx8 (dgT 10 n)) 0 most = .inl (n : Int) := by
 have hr := znq n
 have hl := zdJ 10 (by omega) 5 n (by omega)
 have hne := zio 10 n (by omega)
 have hw : zbj (tx8 (dgT 10 n)) 0 10 (dgT 10 n).length = (n : Int) := by
  have h := zgF 10 (by omega) (by omega) n []
  rw [List.append_nil] at h
  exact h
 have hpos : 0 < (dgT 10 n).length := by
  cases hd : dgT 10 n with
  | nil => exact absurd hd hne
  | cons a b => simp
 unfold zde
 rw [hr, Nat.zero_add, Nat.sub_zero, if_neg, if_neg, hw]
 ·rw [hw]; omega
 ·rintro (q | ⟨q1, q2⟩)
  ·omega
  ·by_cases h0 : 0 < n
   ·obtain ⟨d, r, d1, d2, d3⟩ := zk3 10 (by omega) n h0
    rw [zay, d3] at q2
    have := (zcs ⟨d, by omega⟩).2.2.2 q2
    simp only at this
    omega
   ·obtain rfl : n = 0 := by omega
    rw [zeD (by omega)] at q1
    simp at q1
structure Beg (s : ByteArray) : Prop where
 b : ¬ (chr s 0 = 9 ∨ chr s 0 = 10 ∨ chr s 0 = 13 ∨ chr s 0 = 32)
 c : ¬ (chr s 0 = 45 /\ chr s 1 = 45)
theorem Beg.of {s : ByteArray} {c : Int} (h : chr s 0 = c) (h1 : ¬ (c = 9 ∨ c = 10 ∨ c = 13 ∨ c = 32 ∨ c = 45)) : Beg s := ⟨by rw [h]; omega, by rw [h]; omega⟩
structure Aln (s : ByteArray) (kd nn : Int) (tx : ByteArray) (s0 s1 s2 s3 : Int) : Prop where
 p : 0 < s.size
 o : zaz s 0 = .inl ⟨kd, nn, 0, (s.size : Nat), tx, s0, s1, s2, s3⟩
 b : Beg s
theorem zqg {s : ByteArray} (h : zeK s = true) : Aln s 1 0 s 0 0 0 0 := by
 unfold zeK at h
 simp only [Bool.and_eq_true, decide_eq_true_eq, beq_iff_eq] at h
 obtain ⟨⟨⟨h1, h2⟩, h3⟩, h4⟩ := h
 refine ⟨h1, ?_, ?_⟩
 ·unfold zaz
  rw [if_pos h3]
  unfold zb0
  rw [h4, Nat.sub_zero, if_neg (by omega)]
  congr 2
  apply ByteArray.ext
  simp []
 ·refine Beg.of rfl ?_
  unfold hdB at h3
  simp only [Bool.or_eq_true, Bool.and_eq_true, decide_eq_true_eq, beq_iff_eq] at h3
  omega
theorem al_num (n : Nat) (h : n <= 999999) : Aln (tx8 (dgT 10 n)) 4 n ⟨#[]⟩ 0 0 0 0 := by
 have hne := zio 10 n (by omega)
 have hpos : 0 < (dgT 10 n).length := by
  cases hd : dgT 10 n with
  | nil => exact absurd hd hne
  | cons a b => simp
 obtain ⟨d, h1, h2⟩ := zis 10 (by omega) (by omega) n 0 hpos
 have h3 := (zcs ⟨d, by omega⟩).2.2.1 h1
 dsimp only at h3
 rw [<- h2, <- zay] at h3
 have hc : 48 <= chr (tx8 (dgT 10 n)) 0 /\ chr (tx8 (dgT 10 n)) 0 <= 57 := by
  unfold dgB at h3
  simpa using h3
 refine ⟨hpos, ?_, Beg.of rfl (by omega)⟩
 have hh : hdB (chr (tx8 (dgT 10 n)) 0) = false := by
  unfold hdB
  simp only [Bool.or_eq_false_iff, Bool.and_eq_false_iff, decide_eq_false_iff_not, beq_eq_false_iff_ne]
  omega
 unfold zaz
 rw [if_neg (by rw [hh]; decide), if_pos h3]
 unfold nmR
 rw [show gtK 4 = 999999 from rfl, num10 n 999999 h (by omega), znq n, Nat.zero_add]
 rfl
end Go.Proofs.YtnpifgcgjgddoaaGreatDoor
namespace Go.Proofs.YtnpifgcgjgddoaaGreatDoor.Q
open Go.RowKit
def lch (l : List Int) (i : Nat) : Int := (l[i]?).getD (-1)
theorem zdw {l : List Int} (h : By l) (i : Nat) : chr (zae l) i = lch l i := by
 by_cases hi : i < (zae l).size
 ·rw [zak hi]
  have hl : i < l.length := by rwa [zao] at hi
  unfold lch
  rw [List.getElem?_eq_getElem hl]
  have hb := h l[i] (List.getElem_mem hl)
  have he : (zae l)[i] = UInt8.ofNat l[i].toNat := by
   have h2 := za4 l
   have : (zae l).data.toList[i]'(by simpa using hi) = (zae l)[i] := rfl
   rw [<- this]
   simp [h2]
  rw [he]
  show ((UInt8.ofNat l[i].toNat).toNat : Int) = l[i]
  rw [UInt8.toNat_ofNat', Nat.mod_eq_of_lt (by omega)]
  omega
 ·rw [zau hi]
  unfold lch
  rw [List.getElem?_eq_none (by rw [zao] at hi; omega)]
  rfl
theorem zhu : ∀ b : Fin 256, zaK (zae (shB (b.val : Int))) 0 = .inl ((b.val : Int), (shB (b.val : Int)).length) /\ chr (zae (shB (b.val : Int))) 0 ≠ 39 := by
 have key : ∀ b : Fin 256, (match zaK (zae (shB (b.val : Int))) 0 with | .inl (x, n) => decide (x = (b.val : Int)) && decide (n = (shB (b.val : Int)).length) | .inr (_, _) => false) = true /\ decide (chr (zae (shB (b.val : Int))) 0 ≠ 39) = true := by decide +kernel
 intro b
 obtain ⟨h1, h2⟩ := key b
 refine ⟨?_, of_decide_eq_true h2⟩
 split at h1
 ·next x n hx =>
  rw [hx]
  simp only [Bool.and_eq_true, decide_eq_true_eq] at h1
  rw [h1.1, h1.2]
 ·cases h1
theorem zqh (a p c : List Int) (i : Nat) (h : i < p.length) : lch (a ++ p ++ c) (a.length + i) = lch p i := by
 unfold lch
 rw [List.append_assoc, List.getElem?_append_right (by omega), show a.length + i - a.length = i from by omega, List.getElem?_append_left h]
theorem zqi (a : List Int) (x : Int) : lch (a ++ [x]) a.length = x := by
 unfold lch
 rw [List.getElem?_append_right (Nat.le_refl _), Nat.sub_self]
 rfl
theorem zjk {s s' : ByteArray} {d n : Nat} {b : Int} (h : zaY s 0 = some (b, n)) (hc : ∀ k, k < n -> chr s' (d + k) = chr s k) : zaY s' d = some (b, d + n) := by
 unfold zaY at h ⊢
 split at h
 ·next q =>
  cases h
  rw [Nat.zero_add] at hc
  rw [Nat.zero_add, Nat.zero_add] at *
  rw [hc 2 (by omega), hc 3 (by omega), if_pos q]
 ·cases h
theorem zjl {s s' : ByteArray} {d n : Nat} {b : Int} (h : zap s 0 = some (b, n)) (hc : ∀ k, k < n -> chr s' (d + k) = chr s k) : zap s' d = some (b, d + n) := by
 have hn : 1 < n := by
  unfold zap zaY at h
  repeat' split at h
  all_goals first | (cases h; omega) | cases h
 have h1 := hc 1 (by omega)
 unfold zap at h ⊢
 rw [Nat.zero_add] at h
 rw [h1]
 split at h
 ·next q => cases h; rw [if_pos q]
 ·next q1 =>
  rw [if_neg q1]
  split at h
  ·next q => cases h; rw [if_pos q]
  ·next q2 =>
   rw [if_neg q2]
   split at h
   ·next q => cases h; rw [if_pos q]
   ·next q3 =>
    rw [if_neg q3]
    split at h
    ·next q => cases h; rw [if_pos q]
    ·next q4 =>
     rw [if_neg q4]
     split at h
     ·next q => rw [if_pos q]; exact zjk h hc
     ·cases h
theorem zeW {s s' : ByteArray} {d n : Nat} {b : Int} (h : zaK s 0 = .inl (b, n)) (hc : ∀ k, k < n -> chr s' (d + k) = chr s k) : zaK s' d = .inl (b, d + n) := by
 have hn := zgo h
 have h1 := hc 0 (by omega)
 rw [Nat.add_zero] at h1
 unfold zaK at h ⊢
 rw [h1]
 split at h
 ·next q =>
  rw [if_pos q]
  split at h
  ·cases h
  ·next p hp => cases h; rw [zjl hp hc]
 ·next q =>
  rw [if_neg q]
  split at h
  ·cases h
  ·next q2 => cases h; rw [if_neg q2]
theorem zjm (L : List Int) (hL : By L) (rest : List Int) (hr : By rest) (a : List Int) (l : List Int) (hE : L = a ++ rest.flatMap shB ++ [39]) (f : Nat) (hf : L.length + 1 <= f + a.length) :
  zaZ (zae L) 39 f a.length l = .inl (l ++ rest, L.length) := by
 induction rest generalizing a l f with
 | nil =>
  obtain ⟨g, rfl⟩ : ∃ g, f = g + 1 := ⟨f - 1, by rw [hE] at hf; simp at hf; omega⟩
  have h39 : chr (zae L) a.length = 39 := by
   rw [zdw hL, hE]; simp only [List.flatMap_nil, List.append_nil]; exact zqi a 39
  rw [zfc h39, List.append_nil]
  have : L.length = a.length + 1 := by rw [hE]; simp
  rw [this]
 | cons b rest ih =>
  obtain ⟨g, rfl⟩ : ∃ g, f = g + 1 := ⟨f - 1, by rw [hE] at hf; simp at hf; omega⟩
  have hb := hr b (List.mem_cons_self ..)
  have hlen := zhb b
  have hE2 : L = a ++ shB b ++ (rest.flatMap shB ++ [39]) := by rw [hE, List.flatMap_cons]; simp
  obtain ⟨p1, p2⟩ := zhu ⟨b.toNat, by omega⟩
  rw [show (((⟨b.toNat, by omega⟩ : Fin 256).val : Nat) : Int) = b from by show ((b.toNat : Nat) : Int) = b; omega] at p1 p2
  have hcp : ∀ i, i < (shB b).length -> chr (zae L) (a.length + i) = chr (zae (shB b)) i := fun i hi => by
   rw [zdw hL, zdw (zks hb.1 hb.2), hE2]; exact zqh a (shB b) _ i hi
  have hsz : (zae L).size = L.length := zao L
  have hL2 : L.length = a.length + (shB b).length + (rest.flatMap shB ++ [39]).length := by rw [hE2]; simp; omega
  have hlt : a.length < (zae L).size := by omega
  have hne : chr (zae L) a.length ≠ 39 := by have := hcp 0 (by omega); rw [Nat.add_zero] at this; rw [this]; exact p2
  have hby : zaK (zae L) a.length = .inl (b, a.length + (shB b).length) := by
   have hs := zeW p1 hcp
   exact hs
  rw [zev hne hlt hby]
  have h3 := ih (fun n hn => hr n (List.mem_cons_of_mem _ hn)) (a ++ shB b) (l ++ [b]) (by rw [hE2]; simp) g (by rw [List.length_append]; omega)
  rw [List.length_append] at h3
  rw [h3]
  simp
theorem zk6 (s : ByteArray) (h : (qT s).length <= 65536) : zbV (zae (qT s)) 0 = .inl (byl s, (qT s).length) := by
 have hsz := zao (qT s)
 have hb := zpA s
 have hE : qT s = [39] ++ (byl s).flatMap shB ++ [39] := rfl
 have h0 : chr (zae (qT s)) 0 = 39 := by rw [zdw hb]; rfl
 unfold zbV
 rw [if_neg (by omega), if_neg (by omega), show (0 : Int).toNat = 0 from rfl, h0, if_pos (.inl rfl)]
 have h2 := zjm (qT s) hb (byl s) (zoc s) [39] [] hE ((zae (qT s)).size + 1) (by rw [hsz]; simp)
 exact h2
end Go.Proofs.YtnpifgcgjgddoaaGreatDoor.Q
namespace Go.Proofs.YtnpifgcgjgddoaaGreatDoor
open Go.RowKit
theorem zfg {s : ByteArray} {c : Int} (h0 : chr s 0 = c) (h1 : hdB c = false) (h2 : dgB c = false) (h3 : ¬ (c = 39 ∨ c = 34)) (h4 : ¬ c = 91) (h5 : ¬ c = 37) : zaz s 0 = zbk s 0 := by
 unfold zaz
 rw [h0, if_neg (by rw [h1]; decide), if_neg (by rw [h2]; decide), if_neg h3, if_neg h4, if_neg h5]
theorem zk7 (p : List UInt8) (k : Int) (n : Nat) (h : n <= 50) (hp : p = [94] /\ k = 13 ∨ p = [94, 43] /\ k = 14 ∨ p = [94, 45] /\ k = 15) : Aln (tx8 (p ++ dgT 10 n)) k n ⟨#[]⟩ 0 0 0 0 := by
 have hne := zio 10 n (by omega)
 have hpos : 0 < (dgT 10 n).length := by
  cases hd : dgT 10 n with
  | nil => exact absurd hd hne
  | cons a b => simp
 obtain ⟨d, d1, d2⟩ := zis 10 (by omega) (by omega) n 0 hpos
 have d3 := (zcs ⟨d, by omega⟩).2.2.1 d1
 dsimp only at d3
 rw [<- d2] at d3
 have hc : 48 <= chL (dgT 10 n) 0 /\ chL (dgT 10 n) 0 <= 57 := by
  unfold dgB at d3
  simpa using d3
 have hsz : (tx8 (p ++ dgT 10 n)).size = p.length + (dgT 10 n).length := by rw [zeA, List.length_append]
 have hag : Ag (tx8 (dgT 10 n)) 0 (tx8 (p ++ dgT 10 n)) p.length (dgT 10 n).length := by
  have := zk5 p (dgT 10 n) []
  rwa [List.append_nil] at this
 have hend : dgB (chr (tx8 (p ++ dgT 10 n)) (p.length + (dgT 10 n).length)) = false := by
  rw [zau (by rw [hsz]; omega)]; decide
 have hnum := zhr (b' := 0) (by
  show nmR (tx8 (dgT 10 n)) 0 0 k = .inl ⟨k, n, (0 : Nat), ((dgT 10 n).length : Nat), ⟨#[]⟩, 0, 0, 0, 0⟩
  have hg : gtK k = 50 := by rcases hp with h | h | h <;> (rw [h.2]; rfl)
  unfold nmR
  rw [hg, num10 n 50 (by omega) (by omega), znq n, Nat.zero_add]) (by have := znq n; omega) hag hend
 have hfirst := atj p (dgT 10 n) 0
 rcases hp with ⟨rfl, rfl⟩ | ⟨rfl, rfl⟩ | ⟨rfl, rfl⟩
 ·have c0 : chr (tx8 ([94] ++ dgT 10 n)) 0 = 94 := by rw [zay]; rfl
  refine ⟨by rw [hsz]; omega, ?_, Beg.of c0 (by omega)⟩
  rw [zfg c0 (by decide) (by decide) (by decide) (by decide) (by decide)]
  have e : zai (tx8 ([94] ++ dgT 10 n)) 0 = (13, [94]) := by
   rw [za3, c0, Nat.zero_add, show chr (tx8 ([94] ++ dgT 10 n)) 1 = chL (dgT 10 n) 0 from hfirst]
   unfold sgC
   rw [if_neg (by decide), if_pos rfl, if_neg (by omega), if_neg (by omega)]
  unfold zbk
  rw [e]
  rw [if_neg (by decide), if_pos (by decide), hsz]
  exact hnum
 ·have c0 : chr (tx8 ([94, 43] ++ dgT 10 n)) 0 = 94 := by rw [zay]; rfl
  have c1 : chr (tx8 ([94, 43] ++ dgT 10 n)) 1 = 43 := by rw [zay]; rfl
  refine ⟨by rw [hsz]; omega, ?_, Beg.of c0 (by omega)⟩
  rw [zfg c0 (by decide) (by decide) (by decide) (by decide) (by decide)]
  have e : zai (tx8 ([94, 43] ++ dgT 10 n)) 0 = (14, [94, 43]) := by rw [za3, c0, Nat.zero_add, c1]; rfl
  unfold zbk
  rw [e]
  rw [if_neg (by decide), if_pos (by decide), hsz]
  exact hnum
 ·have c0 : chr (tx8 ([94, 45] ++ dgT 10 n)) 0 = 94 := by rw [zay]; rfl
  have c1 : chr (tx8 ([94, 45] ++ dgT 10 n)) 1 = 45 := by rw [zay]; rfl
  refine ⟨by rw [hsz]; omega, ?_, Beg.of c0 (by omega)⟩
  rw [zfg c0 (by decide) (by decide) (by decide) (by decide) (by decide)]
  have e : zai (tx8 ([94, 45] ++ dgT 10 n)) 0 = (15, [94, 45]) := by rw [za3, c0, Nat.zero_add, c1]; rfl
  unfold zbk
  rw [e]
  rw [if_neg (by decide), if_pos (by decide), hsz]
  exact hnum
theorem pt_at {s : ByteArray} {d n : Nat} (h : n <= 1114111) (hag : Ag (tx8 (dgT 16 n)) 0 s d (dgT 16 n).length) (he : hxB (chr s (d + (dgT 16 n).length)) = false) : ptP s d = ((n : Int), d + (dgT 16 n).length, true) := by
 have hne := zio 16 n (by omega)
 have hl := zdJ 16 (by omega) 5 n (by omega)
 have hpos : 0 < (dgT 16 n).length := by
  cases hd : dgT 16 n with
  | nil => exact absurd hd hne
  | cons a b => simp
 have hr := zcT (by decide) hag (run16 n) he
 have hw : zbj s d 16 (dgT 16 n).length = (n : Int) := by
  rw [zfS hag _ (Nat.le_refl _)]
  have h := zgF 16 (by omega) (by omega) n []
  rw [List.append_nil] at h
  exact h
 unfold ptP
 rw [hr, if_neg (by omega), show d + (dgT 16 n).length - d = (dgT 16 n).length from by omega, hw, decide_eq_true (by omega)]
def rnL (a b : Nat) : List UInt8 := [37, 117, 123] ++ dgT 16 a ++ [45] ++ dgT 16 b ++ [125]
theorem rnT_L (a b : Nat) : rnT a b = tx8 (rnL a b) := by
 unfold rnT rnL txO
 apply ByteArray.ext
 simp
theorem al_pts (a b : Nat) (hab : a <= b) (hb : b <= 1114111) : Aln (rnT a b) 5 a ⟨#[]⟩ b 0 0 0 := by
 rw [rnT_L]
 have hsz : (tx8 (rnL a b)).size = 3 + (dgT 16 a).length + 1 + (dgT 16 b).length + 1 := by
  rw [zeA]; unfold rnL; simp only [List.length_append, List.length_cons, List.length_nil]
 have c0 : chr (tx8 (rnL a b)) 0 = 37 := by rw [zay]; rfl
 have c1 : chr (tx8 (rnL a b)) 1 = 117 := by rw [zay]; rfl
 have c2 : chr (tx8 (rnL a b)) 2 = 123 := by rw [zay]; rfl
 have hA : Ag (tx8 (dgT 16 a)) 0 (tx8 (rnL a b)) 3 (dgT 16 a).length := by
  have := zk5 [37, 117, 123] (dgT 16 a) ([45] ++ dgT 16 b ++ [125])
  rwa [show [37, 117, 123] ++ dgT 16 a ++ ([45] ++ dgT 16 b ++ [125]) = rnL a b from by unfold rnL; simp] at this
 have hB : Ag (tx8 (dgT 16 b)) 0 (tx8 (rnL a b)) (3 + (dgT 16 a).length + 1) (dgT 16 b).length := by
  have := zk5 ([37, 117, 123] ++ dgT 16 a ++ [45]) (dgT 16 b) [125]
  rwa [show ([37, 117, 123] ++ dgT 16 a ++ [45] : List UInt8).length = 3 + (dgT 16 a).length + 1 from by simp only [List.length_append, List.length_cons, List.length_nil]] at this
 have e1 : chr (tx8 (rnL a b)) (3 + (dgT 16 a).length) = 45 := by
  have := at0 ([37, 117, 123] ++ dgT 16 a) ([45] ++ dgT 16 b ++ [125])
  rw [show ([37, 117, 123] ++ dgT 16 a) ++ ([45] ++ dgT 16 b ++ [125]) = rnL a b from by unfold rnL; simp, show ([37, 117, 123] ++ dgT 16 a : List UInt8).length = 3 + (dgT 16 a).length from by simp only [List.length_append, List.length_cons, List.length_nil]] at this
  exact this
 have e2 : chr (tx8 (rnL a b)) (3 + (dgT 16 a).length + 1 + (dgT 16 b).length) = 125 := by
  have := at0 ([37, 117, 123] ++ dgT 16 a ++ [45] ++ dgT 16 b) [125]
  rw [show ([37, 117, 123] ++ dgT 16 a ++ [45] ++ dgT 16 b : List UInt8).length = 3 + (dgT 16 a).length + 1 + (dgT 16 b).length from by simp only [List.length_append, List.length_cons, List.length_nil]] at this
  exact this
 have p1 := pt_at (by omega) hA (by rw [e1]; decide)
 have p2 := pt_at hb hB (by rw [e2]; decide)
 refine ⟨by rw [hsz]; omega, ?_, Beg.of c0 (by omega)⟩
 unfold zaz
 rw [c0, if_neg (by decide), if_neg (by decide), if_neg (by decide), if_neg (by decide), if_pos rfl]
 unfold zcr
 have hp : pfx (tx8 (rnL a b)) 0 [37, 117, 123] = true := by
  unfold pfx; rw [c0]
  unfold pfx; rw [Nat.zero_add, c1]
  unfold pfx; rw [c2]
  rfl
 rw [if_pos hp]
 unfold zbY
 rw [Nat.zero_add, p1]
 dsimp only
 rw [if_neg (by decide), if_pos e1, p2]
 dsimp only
 rw [if_neg (by simp; omega), if_pos e2, hsz]
 rfl
theorem al_pct (c : UInt8) (h : (cls c.toNat).2 = 0) : Aln (tx8 [37, c]) 28 0 (tx8 [c]) (wd (cls c.toNat).1 0) (wd (cls c.toNat).1 1) (wd (cls c.toNat).1 2) (wd (cls c.toNat).1 3) := by
 have n1 : c.toNat ≠ 101 := by intro q; rw [q] at h; revert h; decide
 have n2 : c.toNat ≠ 102 := by intro q; rw [q] at h; revert h; decide
 have c0 : chr (tx8 [37, c]) 0 = 37 := by rw [zay]; rfl
 have c1 : chr (tx8 [37, c]) 1 = (c.toNat : Int) := by rw [zay]; rfl
 have c2 : chr (tx8 [37, c]) 2 = -1 := by rw [zay]; rfl
 refine ⟨by show 0 < 2; omega, ?_, Beg.of c0 (by omega)⟩
 unfold zaz
 rw [c0, if_neg (by decide), if_neg (by decide), if_neg (by decide), if_neg (by decide), if_pos rfl]
 unfold zcr
 have hp : pfx (tx8 [37, c]) 0 [37, 117, 123] = false := by
  unfold pfx
  unfold pfx
  unfold pfx
  rw [Nat.zero_add, show (1 : Nat) + 1 = 2 from rfl, c2]
  simp
 have e : zai (tx8 [37, c]) 0 = (0, []) := by
  rw [za3, c0, Nat.zero_add, c1]
  unfold sgC
  rw [if_pos rfl, if_neg (by omega), if_neg (by omega)]
 rw [if_neg (by rw [hp]; decide), e]
 rw [if_neg (by decide), Nat.zero_add, c1, Int.toNat_natCast, if_pos ⟨by show 1 < 2; omega, h⟩]
 congr 2
theorem zqj : Aln (tx8 [123, 58]) 21 0 ⟨#[]⟩ 0 0 0 0 := by
 have c0 : chr (tx8 [123, 58]) 0 = 123 := by rw [zay]; rfl
 have c1 : chr (tx8 [123, 58]) 1 = 58 := by rw [zay]; rfl
 have c2 : chr (tx8 [123, 58]) 2 = -1 := by rw [zay]; rfl
 refine ⟨by show 0 < 2; omega, ?_, Beg.of c0 (by omega)⟩
 rw [zfg c0 (by decide) (by decide) (by decide) (by decide) (by decide)]
 have e : zai (tx8 [123, 58]) 0 = (21, [123, 58]) := by rw [za3, c0, Nat.zero_add, c1]; rfl
 unfold zbk
 rw [e]
 rw [if_neg (by decide), if_neg (by decide), if_pos (by decide)]
 show zcq (tx8 [123, 58]) 0 2 = _
 unfold zcq
 rw [c2, if_neg (by decide)]
 rfl
theorem al_grp {s : ByteArray} (h : zeK s = true) : Aln (⟨#[123, 58]⟩ ++ (s ++ ⟨#[58]⟩)) 21 0 s 0 0 0 0 := by
 unfold zeK at h
 simp only [Bool.and_eq_true, decide_eq_true_eq, beq_iff_eq] at h
 obtain ⟨⟨⟨h1, h2⟩, h3⟩, h4⟩ := h
 obtain ⟨l, rfl⟩ : ∃ l : List UInt8, s = tx8 l := ⟨s.data.toList, by apply ByteArray.ext; simp⟩
 have hX : (⟨#[123, 58]⟩ ++ (tx8 l ++ ⟨#[58]⟩) : ByteArray) = tx8 ([123, 58] ++ l ++ [58]) := by apply ByteArray.ext; simp
 rw [hX]
 rw [zeA] at h1 h2 h4
 have hag := zk5 [123, 58] l [58]
 have c0 : chr (tx8 ([123, 58] ++ l ++ [58])) 0 = 123 := by rw [zay]; rfl
 have c1 : chr (tx8 ([123, 58] ++ l ++ [58])) 1 = 58 := by rw [zay]; rfl
 have c2 : chr (tx8 ([123, 58] ++ l ++ [58])) 2 = chr (tx8 l) 0 := hag 0 h1
 have ce : chr (tx8 ([123, 58] ++ l ++ [58])) (2 + l.length) = 58 := by
  have := at0 ([123, 58] ++ l) [58]
  rw [show ([123, 58] ++ l : List UInt8).length = 2 + l.length from by simp only [List.length_append, List.length_cons, List.length_nil]] at this
  exact this
 have hr : spN nmB (tx8 ([123, 58] ++ l ++ [58])) 2 = 2 + l.length := zcT (by decide) hag (by rw [h4, Nat.zero_add]) (by show nmB (chr _ (2 + l.length)) = false; rw [ce]; decide)
 have hsz : (tx8 ([123, 58] ++ l ++ [58])).size = 2 + l.length + 1 := by rw [zeA]; simp only [List.length_append, List.length_cons, List.length_nil]
 refine ⟨by rw [hsz]; omega, ?_, Beg.of c0 (by omega)⟩
 rw [zfg c0 (by decide) (by decide) (by decide) (by decide) (by decide)]
 have e : zai (tx8 ([123, 58] ++ l ++ [58])) 0 = (21, [123, 58]) := by rw [za3, c0, Nat.zero_add, c1]; rfl
 unfold zbk
 rw [e]
 rw [if_neg (by decide), if_neg (by decide), if_pos (by decide)]
 show zcq _ 0 2 = _
 unfold zcq
 rw [c2, if_pos h3, hr, if_neg (by omega), if_pos ce, hsz]
 have hx : (tx8 ([123, 58] ++ l ++ [58])).extract 2 (2 + l.length) = tx8 l := by
  apply ByteArray.ext
  simp [ByteArray.data_extract]
 rw [hx]
 rfl
theorem al_lit (s : ByteArray) (h : s.size <= 255) : Aln (Q.zae (Q.qT s)) 2 0 s 0 0 0 0 := by
 have hq : (Q.qT s).length <= 4 * s.size + 2 := by
  have h := (Q.zhd s s.size).1
  rw [<- Q.zhc s s.size (Nat.le_refl _), List.length_append, List.length_singleton]
  omega
 have hsz : (Q.zae (Q.qT s)).size = (Q.qT s).length := Q.zao _
 have c0 : chr (Q.zae (Q.qT s)) 0 = 39 := by
  rw [<- zjd, Q.zdw (Q.zpA s)]
  rfl
 have hpos : 0 < (Q.zae (Q.qT s)).size := zaC (by rw [c0]; omega)
 have hr := Q.zk6 s (by omega)
 have hl := zic (Q.zae (Q.qT s)) 0 (by omega) (by omega) (.inl c0)
 refine ⟨hpos, ?_, Beg.of c0 (by omega)⟩
 unfold zaz
 rw [c0, if_neg (by decide), if_neg (by decide), if_pos (by decide), <- hl]
 rw [show (((0 : Nat) : Int)) = 0 from rfl, hr]
 unfold zkB
 dsimp only
 rw [if_neg (by rw [Q.zfE]; omega), hsz, <- q_text, Q.zfd]
 rfl
theorem al_cls (x : BitVec 256) : Aln (tx8 (shT x)) 3 0 ⟨#[]⟩ (wd x 0) (wd x 1) (wd x 2) (wd x 3) := by
 have hr := zkV x
 have c0 : chr (tx8 (shT x)) 0 = 91 := by
  rw [zay]
  unfold shT
  split <;> rfl
 refine ⟨zaC (by rw [c0]; omega), ?_, Beg.of c0 (by omega)⟩
 unfold zaz
 rw [c0, if_neg (by decide), if_neg (by decide), if_neg (by decide), if_pos rfl]
 rw [show (((0 : Nat) : Int)) = 0 from rfl, hr]
 rfl
def zqk (r : Sum Tk (Nat × Int)) (k : Int) (n : Nat) : Bool := match r with
 | .inl t => t.kd == k && t.nn == 0 && t.fr == 0 && t.en == (n : Int) && t.tx.data.toList == [] && t.s0 == 0 && t.s1 == 0 && t.s2 == 0 && t.s3 == 0
 | .inr _ => false
theorem znr {r : Sum Tk (Nat × Int)} {k : Int} {n : Nat} (h : zqk r k n = true) : r = .inl ⟨k, 0, 0, (n : Int), ⟨#[]⟩, 0, 0, 0, 0⟩ := by
 cases r with
 | inr q => cases h
 | inl t =>
  obtain ⟨a0, a1, a2, a3, a4, a5, a6, a7, a8⟩ := t
  simp only [zqk, Bool.and_eq_true, beq_iff_eq] at h
  obtain ⟨⟨⟨⟨⟨⟨⟨⟨h0, h1⟩, h2⟩, h3⟩, h4⟩, h5⟩, h6⟩, h7⟩, h8⟩ := h
  have h4 : a4 = ⟨#[]⟩ := by apply ByteArray.ext; simpa using h4
  subst h0 h1 h2 h3 h4 h5 h6 h7 h8
  rfl
def sgX (k : Nat) : List UInt8 := if k = 29 then [37, 101] else if k = 30 then [37, 102] else sgn k
def begB (l : List UInt8) : Bool := decide (0 < l.length) && !(chL l 0 == 9) && !(chL l 0 == 10) && !(chL l 0 == 13) && !(chL l 0 == 32) && !(chL l 0 == 45 && chL l 1 == 45)
theorem sg_all : ∀ k, k < 31 -> (1 <= k /\ k ≠ 1 /\ k ≠ 21 /\ k ≠ 2 /\ k ≠ 3 /\ k ≠ 28 /\ k ≠ 5 /\ k ≠ 4 /\ k ≠ 13 /\ k ≠ 14 /\ k ≠ 15) -> (zqk (zaz (tx8 (sgX k)) 0) k (sgX k).length && begB (sgX k)) = true := by decide +kernel
theorem al_sig (k : Nat) (h1 : k < 31) (h2 : 1 <= k /\ k ≠ 1 /\ k ≠ 21 /\ k ≠ 2 /\ k ≠ 3 /\ k ≠ 28 /\ k ≠ 5 /\ k ≠ 4 /\ k ≠ 13 /\ k ≠ 14 /\ k ≠ 15) : Aln (tx8 (sgX k)) k 0 ⟨#[]⟩ 0 0 0 0 := by
 have h := sg_all k h1 h2
 obtain ⟨h3, h4⟩ := Bool.and_eq_true_iff.1 h
 simp only [begB, Bool.and_eq_true, decide_eq_true_eq, Bool.not_eq_true', beq_eq_false_iff_ne, Bool.and_eq_false_iff] at h4
 obtain ⟨⟨⟨⟨⟨g0, g1⟩, g2⟩, g3⟩, g4⟩, g5⟩ := h4
 refine ⟨g0, znr h3, ⟨?_, ?_⟩⟩
 ·rw [zay]; omega
 ·rw [zay, zay]; omega
theorem zit (s : ByteArray) : (Q.qT s).length <= 4 * s.size + 2 := by
 have h := (Q.zhd s s.size).1
 rw [<- Q.zhc s s.size (Nat.le_refl _), List.length_append, List.length_singleton]
 omega
theorem gtK_le (k : Int) : gtK k <= 999999 := by unfold gtK; (repeat' split) <;> omega
theorem bcells (a b : List UInt8) : Lib.byteCells (a ++ b) = Lib.byteCells a ++ Lib.byteCells b := by unfold Lib.byteCells; rw [List.map_append]
theorem scells (s : ByteArray) : Lib.strCells s = Lib.byteCells s.data.toList := rfl
def lkT (t : Tk) : Tk := { t with fr := 0, en := 0 }
theorem lk_get {L M : List Tk} (h : L.map lkT = M.map lkT) {k : Nat} {t : Tk} (hk : L[k]? = some t) : ∃ u, M[k]? = some u /\ lkT u = lkT t := by
 have h1 : (L.map lkT)[k]? = some (lkT t) := by rw [List.getElem?_map, hk]; rfl
 rw [h, List.getElem?_map] at h1
 cases hm : M[k]? with
 | none => rw [hm] at h1; cases h1
 | some u => rw [hm] at h1; exact ⟨u, rfl, by simpa using h1⟩
theorem zok {s : ByteArray} (h : (s.toList == []) = true) : s = ⟨#[]⟩ := zgC (by have := zfU h; omega)
theorem zd8 {k s0 s1 s2 s3 : Int} {s : ByteArray} (n3 : ¬ k = 3) (n28 : ¬ k = 28) (n5 : ¬ k = 5) (h : seF k s s0 s1 s2 s3 = true) : s0 = 0 /\ s1 = 0 /\ s2 = 0 /\ s3 = 0 := by
 unfold seF at h
 rw [if_neg n3, if_neg n28, if_neg n5] at h
 simpa using h
theorem ziu {k : Int} {s : ByteArray} (n1 : ¬ k = 1) (n21 : ¬ k = 21) (n2 : ¬ k = 2) (n28 : ¬ k = 28) (h : txF k s = true) : s = ⟨#[]⟩ := by
 unfold txF at h
 rw [if_neg n1, if_neg n21, if_neg n2, if_neg n28] at h
 exact zok h
theorem ziv {t : Tk} (hr : riF t = true) (hb : TkB t) : Aln (tkX t) t.kd t.nn t.tx t.s0 t.s1 t.s2 t.s3 := by
 obtain ⟨h1, h2, h3, h4, h5, h6⟩ := ri_nat hr
 have hs := zqc h3
 have u0 := hb.u0
 have u1 := hb.u1
 have u2 := hb.u2
 have u3 := hb.u3
 have u4 := hb.u4
 obtain ⟨kd, nn, fr, en, tx, s0, s1, s2, s3⟩ := t
 unfold tkX
 dsimp only at *
 clear hr hb
 by_cases n1 : kd = 1
 ·subst n1
  obtain ⟨rfl, rfl, rfl, rfl⟩ := zd8 (by omega) (by omega) (by omega) h6
  obtain rfl : nn = 0 := by rw [if_neg (by omega)] at h5; have : gtK 1 = 0 := rfl; omega
  rw [if_pos rfl]
  exact zqg h3
 rw [if_neg n1]
 by_cases n21 : kd = 21
 ·subst n21
  obtain ⟨rfl, rfl, rfl, rfl⟩ := zd8 (by omega) (by omega) (by omega) h6
  obtain rfl : nn = 0 := by rw [if_neg (by omega)] at h5; have : gtK 21 = 0 := rfl; omega
  rw [if_pos rfl]
  unfold txF at h3
  rw [if_neg (by omega), if_pos rfl] at h3
  rcases Bool.or_eq_true_iff.1 h3 with h | h
  ·obtain rfl := zok h
   exact zqj
  ·have := (zbs h).1
   unfold gnm
   rw [if_neg (by omega)]
   exact al_grp h
 rw [if_neg n21]
 by_cases n2 : kd = 2
 ·subst n2
  obtain ⟨rfl, rfl, rfl, rfl⟩ := zd8 (by omega) (by omega) (by omega) h6
  obtain rfl : nn = 0 := by rw [if_neg (by omega)] at h5; have : gtK 2 = 0 := rfl; omega
  rw [if_pos rfl]
  exact al_lit tx hs
 rw [if_neg n2]
 by_cases n3 : kd = 3
 ·subst n3
  obtain rfl := ziu (by omega) (by omega) (by omega) (by omega) h3
  obtain rfl : nn = 0 := by rw [if_neg (by omega)] at h5; have : gtK 3 = 0 := rfl; omega
  rw [if_pos rfl]
  obtain ⟨x0, x1, x2, x3⟩ := zoj s0 s1 s2 s3 ⟨u0, u1⟩ u2 u3 u4
  have h := al_cls (mkS s0 s1 s2 s3)
  rw [x0, x1, x2, x3] at h
  exact h
 rw [if_neg n3]
 by_cases n28 : kd = 28
 ·subst n28
  obtain rfl : nn = 0 := by rw [if_neg (by omega)] at h5; have : gtK 28 = 0 := rfl; omega
  rw [if_pos rfl]
  have hsz : tx.size = 1 := by
   unfold txF at h3
   rw [if_neg (by omega), if_neg (by omega), if_neg (by omega), if_pos rfl] at h3
   have := of_decide_eq_true h3
   omega
  obtain ⟨c, rfl⟩ : ∃ c, tx = tx8 [c] := by
   obtain ⟨⟨l⟩⟩ := tx
   match l, hsz with
   | [c], _ => exact ⟨c, rfl⟩
  have hc : chr (tx8 [c]) 0 = (c.toNat : Int) := by rw [zay]; rfl
  unfold seF at h6
  rw [if_neg (by omega), if_pos rfl, hc, Int.toNat_natCast] at h6
  simp only [Bool.and_eq_true, beq_iff_eq] at h6
  obtain ⟨q, rfl, rfl, rfl, rfl⟩ := h6
  exact al_pct c q
 rw [if_neg n28]
 obtain rfl := ziu n1 n21 n2 n28 h3
 by_cases n5 : kd = 5
 ·subst n5
  have h7 := zqd rfl h6
  rw [if_pos rfl] at h5 ⊢
  unfold seF at h6
  rw [if_neg (by omega), if_neg (by omega), if_pos rfl] at h6
  simp only [Bool.and_eq_true, beq_iff_eq] at h6
  obtain ⟨_, _, rfl, rfl, rfl⟩ := h6
  have h := al_pts nn.toNat s0.toNat (by omega) (by omega)
  rw [show ((nn.toNat : Nat) : Int) = nn from by omega, show ((s0.toNat : Nat) : Int) = s0 from by omega] at h
  exact h
 rw [if_neg n5] at h5 ⊢
 obtain ⟨rfl, rfl, rfl, rfl⟩ := zd8 n3 n28 n5 h6
 by_cases n4 : kd = 4
 ·subst n4
  rw [if_pos rfl]
  have hg : gtK 4 = 999999 := rfl
  have h := al_num nn.toNat (by omega)
  rw [show ((nn.toNat : Nat) : Int) = nn from by omega] at h
  exact h
 rw [if_neg n4]
 by_cases n13 : kd = 13
 ·subst n13
  rw [if_pos rfl]
  have hg : gtK 13 = 50 := rfl
  have h := zk7 [94] 13 nn.toNat (by omega) (.inl ⟨rfl, rfl⟩)
  rw [show ((nn.toNat : Nat) : Int) = nn from by omega] at h
  rw [show (⟨#[94]⟩ ++ txO (dgT 10 nn.toNat) : ByteArray) = tx8 ([94] ++ dgT 10 nn.toNat) from by unfold txO; apply ByteArray.ext; simp]
  exact h
 rw [if_neg n13]
 by_cases n14 : kd = 14
 ·subst n14
  rw [if_pos rfl]
  have hg : gtK 14 = 50 := rfl
  have h := zk7 [94, 43] 14 nn.toNat (by omega) (.inr (.inl ⟨rfl, rfl⟩))
  rw [show ((nn.toNat : Nat) : Int) = nn from by omega] at h
  rw [show (⟨#[94, 43]⟩ ++ txO (dgT 10 nn.toNat) : ByteArray) = tx8 ([94, 43] ++ dgT 10 nn.toNat) from by unfold txO; apply ByteArray.ext; simp]
  exact h
 rw [if_neg n14]
 by_cases n15 : kd = 15
 ·subst n15
  rw [if_pos rfl]
  have hg : gtK 15 = 50 := rfl
  have h := zk7 [94, 45] 15 nn.toNat (by omega) (.inr (.inr ⟨rfl, rfl⟩))
  rw [show ((nn.toNat : Nat) : Int) = nn from by omega] at h
  rw [show (⟨#[94, 45]⟩ ++ txO (dgT 10 nn.toNat) : ByteArray) = tx8 ([94, 45] ++ dgT 10 nn.toNat) from by unfold txO; apply ByteArray.ext; simp]
  exact h
 rw [if_neg n15]
 have hg : gtK kd = 0 := by unfold gtK; rw [if_neg n4, if_neg (by omega)]
 obtain rfl : nn = 0 := by omega
 have h := al_sig kd.toNat (by omega) ⟨by omega, by omega, by omega, by omega, by omega, by omega, by omega, by omega, by omega, by omega, by omega⟩
 rw [show ((kd.toNat : Nat) : Int) = kd from by omega] at h
 by_cases n29 : kd = 29
 ·subst n29; rw [if_pos rfl]; exact h
 rw [if_neg n29]
 by_cases n30 : kd = 30
 ·subst n30; rw [if_pos rfl]; exact h
 rw [if_neg n30]
 unfold sgX at h
 rw [if_neg (by omega), if_neg (by omega)] at h
 exact h
theorem zgG {t : Tk} (hr : riF t = true) (hb : TkB t) {s : ByteArray} {b : Nat} (ha : Ag (tkX t) 0 s b (tkX t).size) (he : zd0 (chr s (b + (tkX t).size)) = true) : 0 < (tkX t).size /\ zbT s b = b /\ b < s.size /\ b + (tkX t).size <= s.size /\ zaz s b = .inl (mvT t b (tkX t).size) := by
 have h := ziv hr hb
 have h1 := zjj h.p h.b.b h.b.c h.o (m := (tkX t).size) (by show ((tkX t).size : Int) = ((0 + (tkX t).size : Nat) : Int); omega) ha
 have h2 := zno h.p h.o (m := (tkX t).size) (by show ((tkX t).size : Int) = ((0 + (tkX t).size : Nat) : Int); omega) ha (.inl he)
 exact ⟨h.p, h1.1, h1.2, ha.in h.p (by omega), h2⟩
theorem zk8 (s : ByteArray) : zbT s s.size = s.size := by rw [zb7, if_neg (by omega)]
structure Rgt (t : Tk) : Prop where
 r : riF t = true
 b : TkB t
theorem Rgt.plain {k n a e : Int} {tx : ByteArray} (h : riF ⟨k, n, a, e, tx, 0, 0, 0, 0⟩ = true) (hn : n <= 1114111) : Rgt ⟨k, n, a, e, tx, 0, 0, 0, 0⟩ := ⟨h, ⟨by show n < _; omega, by show (0 : Int) <= 0; omega, by show (0 : Int) < _; omega, by show (0 : Int) <= 0 /\ (0 : Int) < _; omega, by show (0 : Int) <= 0 /\ (0 : Int) < _; omega, by show (0 : Int) <= 0 /\ (0 : Int) < _; omega⟩⟩
theorem zc1 (x : BitVec 256) (i : Nat) : 0 <= wd x i /\ wd x i < 18446744073709551616 := by
 unfold wd
 have := (x.extractLsb' (64 * i) 64).isLt
 omega
theorem zol {s : ByteArray} {b : Nat} (hh : hdB (chr s b) = true) (hle : ¬ 32 < spN nmB s b - b) : zeK (s.extract b (spN nmB s b)) = true := by
 have hnm : nmB (chr s b) = true := by unfold nmB; rw [hh]; rfl
 obtain ⟨h1, h2⟩ := zbn (P := nmB) (by decide) hnm
 have h3 := zbo nmB s (by decide) (b + 1)
 have h4 := zbQ nmB s (by decide) b (by omega)
 obtain ⟨_, _, h6, h7⟩ := zbe nmB s (by decide) _ b rfl
 generalize spN nmB s b = e at *
 have hsz : (s.extract b e).size = e - b := by rw [ByteArray.size_extract]; omega
 have hc : ∀ k, k < e - b -> chr (s.extract b e) k = chr s (b + k) := fun k hk => zej (by omega) h4
 unfold zeK
 rw [hsz, decide_eq_true (by omega), decide_eq_true (by omega), hc 0 (by omega), Nat.add_zero, hh]
 have hr : spN nmB (s.extract b e) 0 = e - b := by
  refine zgB (by decide) (by omega) (fun k _ hk => ?_) ?_
  ·rw [hc k hk]; exact h7 (b + k) (by omega) (by omega)
  ·rw [zau (by rw [hsz]; omega)]; decide
 rw [hr]
 simp
theorem ziw (s : ByteArray) (i : Nat) (base : Int) (hb : 0 <= base) : ∀ k, (∀ j, j < k -> 0 <= zbd (chr s (i + j))) -> 0 <= zbj s i base k := by
 intro k
 induction k with
 | zero => intro _; exact Int.le_refl _
 | succ k ih =>
  intro h
  have h1 := ih (fun j hj => h j (by omega))
  have h2 := h k (by omega)
  have h3 := Int.mul_nonneg h1 hb
  show 0 <= zbj s i base k * base + zbd (chr s (i + k))
  omega
theorem zom {c : Int} (h : dgB c = true) : 0 <= zbd c := by
 unfold dgB at h
 simp only [Bool.and_eq_true, decide_eq_true_eq] at h
 unfold zbd
 rw [if_pos h]
 omega
theorem hx_hex {c : Int} (h : hxB c = true) : 0 <= zbd c := by
 unfold hxB at h
 rcases Bool.or_eq_true_iff.1 h with h | h
 ·exact zom h
 ·simp only [Bool.and_eq_true, decide_eq_true_eq] at h
  unfold zbd
  rw [if_neg (by omega), if_pos h]
  omega
theorem zql {s : ByteArray} {d : Nat} {m n : Int} (h : zde s d m = .inl n) : 0 <= n /\ n <= m := by
 unfold zde at h
 split at h
 ·cases h
 split at h
 ·cases h
 ·next q1 q2 =>
  cases h
  obtain ⟨_, _, _, h7⟩ := zbe dgB s (by decide) _ d rfl
  refine ⟨ziw _ _ _ (by omega) _ (fun j hj => zom (h7 (d + j) (by omega) (by omega))), ?_⟩
  omega
theorem zk9 {s : ByteArray} {b d : Nat} {k : Int} {t : Tk} (hk : k = 4 ∨ k = 13 ∨ k = 14 ∨ k = 15) (h : nmR s b d k = .inl t) : Rgt t := by
 unfold nmR at h
 cases hn : zde s d (gtK k) with
 | inr e => rw [hn] at h; cases h
 | inl n =>
  rw [hn] at h
  cases h
  obtain ⟨h1, h2⟩ := zql hn
  have h3 := gtK_le k
  refine Rgt.plain ?_ (by omega)
  have em : ((⟨#[]⟩ : ByteArray).toList == []) = true := by rw [ByteArray.toList_eq]; rfl
  unfold riF txF nbF seF
  rcases hk with rfl | rfl | rfl | rfl <;> simp [] <;> omega
theorem zla (s : ByteArray) (q : Int) (b : Nat) : ∀ (f : Nat) (out : List Int) (i : Nat) (t : Tk), zbR s q b f out i = .inl t -> Rgt t := by
 intro f
 induction f with
 | zero => intro out i t h; rw [zbR] at h; cases h
 | succ f ih =>
  intro out i t h
  rw [zbR] at h
  split at h
  ·cases h
  split at h
  ·split at h
   ·cases h
   ·next q2 =>
    cases h
    refine Rgt.plain ?_ (by omega)
    unfold riF txF nbF seF gtK
    have := zao out
    simp
    omega
  split at h
  ·cases h
  split at h
  ·exact ih _ _ _ h
  ·split at h
   ·cases h
   ·exact ih _ _ _ h
theorem zlb {a e : Int} {s : ByteArray} (h : zeK s = true) : riF ⟨1, 0, a, e, s, 0, 0, 0, 0⟩ = true := by
 unfold riF txF nbF seF gtK
 simp [h]
theorem zon {a e : Int} {s : ByteArray} (h : zeK s = true) : riF ⟨21, 0, a, e, s, 0, 0, 0, 0⟩ = true := by
 unfold riF txF nbF seF gtK
 simp [h]
theorem zhv {a e : Int} : riF ⟨21, 0, a, e, ⟨#[]⟩, 0, 0, 0, 0⟩ = true := by
 have em : ((⟨#[]⟩ : ByteArray).toList == []) = true := by rw [ByteArray.toList_eq]; rfl
 unfold riF txF nbF seF gtK
 simp []
theorem zns {s : ByteArray} {b d : Nat} {t : Tk} (h : zcq s b d = .inl t) : Rgt t := by
 unfold zcq at h
 split at h
 ·next hh =>
  split at h
  ·cases h
  ·next hl =>
   split at h
   ·cases h; exact Rgt.plain (zon (zol hh hl)) (by omega)
   ·cases h; exact Rgt.plain zhv (by omega)
 ·cases h; exact Rgt.plain zhv (by omega)
def sgK (k : Int) : Bool := k == 0 || k == 13 || k == 14 || k == 15 || k == 21 || k == 29 || k == 30 || k == 27 || (decide (6 <= k) && decide (k <= 12)) || (decide (16 <= k) && decide (k <= 20)) || (decide (22 <= k) && decide (k <= 26))
theorem sgC_in (c0 c1 : Int) : sgK (sgC c0 c1).1 = true := by
 have h : ∀ l : List (Int × List UInt8), (∀ p ∈ l, sgK p.1 = true) -> sgK (zc0 c0 c1 l).1 = true := by
  intro l
  induction l with
  | nil => intro _; rfl
  | cons p l ih =>
   intro h
   rw [zc0]
   split
   ·exact h p (List.mem_cons_self ..)
   ·exact ih (fun q hq => h q (List.mem_cons_of_mem _ hq))
 rw [<- zim]
 exact h sgTab (by decide)
theorem zoo {k a e : Int} (h : sgK k = true) (h0 : ¬ k = 0) (h1 : ¬ (k = 13 ∨ k = 14 ∨ k = 15)) (h2 : ¬ k = 21) : riF ⟨k, 0, a, e, ⟨#[]⟩, 0, 0, 0, 0⟩ = true := by
 have em : ((⟨#[]⟩ : ByteArray).toList == []) = true := by rw [ByteArray.toList_eq]; rfl
 simp only [sgK, Bool.or_eq_true, Bool.and_eq_true, beq_iff_eq, decide_eq_true_eq] at h
 unfold riF txF nbF seF gtK
 dsimp only
 rw [if_neg (show ¬ k = 1 by omega), if_neg (show ¬ k = 21 by omega), if_neg (show ¬ k = 2 by omega), if_neg (show ¬ k = 28 by omega), if_neg (show ¬ k = 5 by omega), if_neg (show ¬ k = 4 by omega), if_neg h1, if_neg (show ¬ k = 3 by omega), if_neg (show ¬ k = 28 by omega), if_neg (show ¬ k = 5 by omega), em, decide_eq_true (show 1 <= k by omega), decide_eq_true (show k <= 30 by omega)]
 rfl
theorem zix {s : ByteArray} {b : Nat} {t : Tk} (h : zbk s b = .inl t) : Rgt t := by
 have hi := sgC_in (chr s b) (chr s (b + 1))
 rw [<- za3] at hi
 unfold zbk at h
 split at h
 ·cases h
 split at h
 ·next q => exact zk9 (.inr q) h
 split at h
 ·exact zns h
 ·next h0 h1 h2 => cases h; exact Rgt.plain (zoo hi h0 h1 h2) (by omega)
theorem zop {n m a e : Int} (h0 : 0 <= n) (h1 : n <= m) (h2 : m <= 1114111) : Rgt ⟨5, n, a, e, ⟨#[]⟩, m, 0, 0, 0⟩ := by
 have em : ((⟨#[]⟩ : ByteArray).toList == []) = true := by rw [ByteArray.toList_eq]; rfl
 refine ⟨?_, ⟨by show n < _; omega, by show 0 <= m; omega, by show m < _; omega, by show (0 : Int) <= 0 /\ (0 : Int) < _; omega, by show (0 : Int) <= 0 /\ (0 : Int) < _; omega, by show (0 : Int) <= 0 /\ (0 : Int) < _; omega⟩⟩
 unfold riF txF nbF seF
 simp []
 omega
theorem zlc {s : ByteArray} {a : Nat} (h : (ptP s a).2.2 = true) : 0 <= (ptP s a).1 /\ (ptP s a).1 <= 1114111 := by
 unfold ptP at h ⊢
 split at h
 ·cases h
 ·next q =>
  rw [if_neg q]
  obtain ⟨_, _, _, h7⟩ := zbe hxB s (by decide) _ a rfl
  exact ⟨ziw _ _ _ (by omega) _ (fun j hj => hx_hex (h7 (a + j) (by omega) (by omega))), of_decide_eq_true h⟩
theorem znt {s : ByteArray} {b : Nat} {t : Tk} (h : zbY s b = .inl t) : Rgt t := by
 unfold zbY at h
 split at h
 ·cases h
 next q1 =>
 have p1 := zlc (s := s) (a := b + 3) (by simpa using q1)
 split at h
 ·split at h
  ·cases h
  next q2 =>
  have p2 := zlc (s := s) (a := (ptP s (b + 3)).2.1 + 1) (by
   by_cases q : (ptP s ((ptP s (b + 3)).2.1 + 1)).2.2 = false
   ·exact absurd (.inl q) q2
   ·simpa using q)
  split at h
  ·cases h; exact zop p1.1 (by omega) p2.2
  ·cases h
 ·split at h
  ·cases h; exact zop p1.1 (Int.le_refl _) p1.2
  ·cases h
theorem znu {s : ByteArray} {b : Nat} {t : Tk} (_hb : b < s.size) (h : zaz s b = .inl t) : Rgt t := by
 unfold zaz at h
 split at h
 ·next hh =>
  unfold zb0 at h
  split at h
  ·cases h
  ·next hl => cases h; exact Rgt.plain (zlb (zol hh hl)) (by omega)
 split at h
 ·exact zk9 (.inl rfl) h
 split at h
 ·exact zla _ _ _ _ _ _ _ h
 split at h
 ·cases hr : zal s b with
  | inr p =>
   rw [hr, clT] at h
   split at h <;> cases h
  | inl p =>
   rw [hr] at h
   cases h
   have em : ((⟨#[]⟩ : ByteArray).toList == []) = true := by rw [ByteArray.toList_eq]; rfl
   refine ⟨?_, ⟨by show (0 : Int) < _; omega, (zc1 _ _).1, (zc1 _ _).2, zc1 _ _, zc1 _ _, zc1 _ _⟩⟩
   unfold riF txF nbF seF gtK
   simp []
 split at h
 ·unfold zcr at h
  split at h
  ·exact znt h
  split at h
  ·exact zix h
  split at h
  ·next q =>
   cases h
   obtain ⟨q1, q2⟩ := q
   refine ⟨?_, ⟨by show (0 : Int) < _; omega, (zc1 _ _).1, (zc1 _ _).2, zc1 _ _, zc1 _ _, zc1 _ _⟩⟩
   have hsz : (s.extract (b + 1) (b + 2)).size = 1 := by rw [ByteArray.size_extract]; omega
   have hc : chr (s.extract (b + 1) (b + 2)) 0 = chr s (b + 1) := by rw [zej (by omega) (by omega)]
   unfold riF txF nbF seF gtK
   dsimp only
   rw [hc, hsz, q2]
   simp
  ·cases h
 ·exact zix h
theorem zqm (s : ByteArray) : ∀ (l : List Tk) (i : Nat), Chn s i l -> ∀ t ∈ l, Rgt t := by
 intro l
 induction l with
 | nil => intro i _ t ht; cases ht
 | cons a l ih =>
  intro i h t ht
  obtain ⟨h1, h2, e, _, _, _, h3⟩ := h
  rcases List.mem_cons.1 ht with rfl | h4
  ·exact znu h1 h2
  ·exact ih e h3 t h4
theorem zld {s : ByteArray} {l : List Tk} (h : zcl (zaz s) s = .inl l) : ∀ t ∈ l, Rgt t := zqm s l 0 (zkZ h).2
theorem zle (s : ByteArray) (q : Int) (b : Nat) (hb : b <= s.size) : ∀ (f : Nat) (out : List Int) (i : Nat) (p : Nat × Int), zbR s q b f out i = .inr p -> p.1 <= s.size := by
 intro f
 induction f with
 | zero => intro out i p h; rw [zbR] at h; cases h; exact hb
 | succ f ih =>
  intro out i p h
  rw [zbR] at h
  split at h
  ·cases h; exact hb
  next hc =>
  have hi : i < s.size := zaC (by omega)
  split at h
  ·split at h
   ·cases h; exact hb
   ·cases h
  split at h
  ·cases h; exact Nat.le_of_lt hi
  split at h
  ·exact ih _ _ _ h
  ·split at h
   ·cases h; exact Nat.le_of_lt hi
   ·exact ih _ _ _ h
theorem zlf {s : ByteArray} {b d : Nat} {k : Int} {p : Nat × Int} (hb : b <= s.size) (h : nmR s b d k = .inr p) : p.1 <= s.size := by
 unfold nmR at h
 cases hn : zde s d (gtK k) with
 | inr e => rw [hn] at h; cases h; exact hb
 | inl n => rw [hn] at h; cases h
theorem ziy {s : ByteArray} {b : Nat} {p : Nat × Int} (hb : b <= s.size) (h : zbk s b = .inr p) : p.1 <= s.size := by
 have hl := zbA s b hb
 unfold zbk at h
 split at h
 ·cases h; exact hb
 split at h
 ·exact zlf hb h
 split at h
 ·unfold zcq at h
  split at h
  ·split at h
   ·cases h; exact hl
   ·split at h <;> cases h
  ·cases h
 ·cases h
theorem znv {s : ByteArray} {b : Nat} {p : Nat × Int} (hb : b <= s.size) (h : zbY s b = .inr p) : p.1 <= s.size := by
 unfold zbY at h
 split at h
 ·cases h; exact hb
 split at h
 ·split at h
  ·cases h; exact hb
  split at h
  ·cases h
  ·cases h; exact hb
 ·split at h
  ·cases h
  ·cases h; exact hb
theorem znw {s : ByteArray} {b : Nat} {p : Nat × Int} (hb : b <= s.size) (h : zaz s b = .inr p) : p.1 <= s.size := by
 unfold zaz at h
 split at h
 ·unfold zb0 at h
  split at h
  ·cases h; exact hb
  ·cases h
 split at h
 ·exact zlf hb h
 split at h
 ·exact zle _ _ _ hb _ _ _ _ h
 split at h
 ·cases hr : zal s b with
  | inl q => rw [hr] at h; cases h
  | inr q =>
   rw [hr, clT] at h
   split at h
   ·cases h; exact hb
   ·cases h; exact zkW hr
 split at h
 ·unfold zcr at h
  split at h
  ·exact znv hb h
  split at h
  ·exact ziy hb h
  split at h
  ·cases h
  ·cases h; exact hb
 ·exact ziy hb h
theorem zlg (s : ByteArray) : ∀ (f : Nat) (out : List Tk) (i : Nat) (p : Nat × Int), zcW (zaz s) s f out i = .inr p -> p.1 <= s.size /\ p.2 ≠ 0 := by
 intro f
 induction f with
 | zero => intro out i p h; rw [zcW] at h; cases h
 | succ f ih =>
  intro out i p h
  rw [zcW] at h
  split at h
  ·next hi =>
   cases ho : zaz s i with
   | inr q => rw [ho] at h; cases h; exact ⟨znw (Nat.le_of_lt hi) ho, zkM s i _ ho⟩
   | inl t => rw [ho] at h; exact ih _ _ _ h
  ·cases h
theorem zlh {s : ByteArray} {p : Nat × Int} (h : zcl (zaz s) s = .inr p) : p.1 <= s.size /\ p.2 ≠ 0 := by
 unfold zcl at h
 split at h
 ·cases h; exact ⟨Nat.zero_le _, by decide⟩
 ·exact zlg s _ _ _ _ h
theorem zqn (s : ByteArray) : ∀ (l : List Tk) (i : Nat), i <= s.size -> Chn s i l -> i + l.length <= s.size := by
 intro l
 induction l with
 | nil => intro i hi _; simpa using hi
 | cons a l ih =>
  intro i hi h
  obtain ⟨h1, _, e, _, h3, h4, h5⟩ := h
  have h6 := ih e h4 h5
  have h7 := zhp s i hi
  rw [List.length_cons]
  omega
theorem zli {s : ByteArray} {l : List Tk} (h : zcl (zaz s) s = .inl l) : l.length <= 65536 := by
 obtain ⟨h1, h2⟩ := zkZ h
 have := zqn s l 0 (by omega) h2
 omega
end Go.Proofs.YtnpifgcgjgddoaaGreatDoor
namespace Go.Proofs.YtnpifgcgjgddoaaGreatDoor.N
open Go.RowKit
structure GW (W : World) : Prop where
 s : SG W
 v : R.VB W
theorem GW.later {W W' : World} (h : GW W) (hb : Below W.heap.size W W') : GW W' := ⟨h.s.later hb, h.v.below hb h.v.lt⟩
theorem zlj {s : ByteArray} {l : List Tk} (h : zcl (zaz s) s = .inl l) : OkE (mkE l) := by
 have hr := zld h
 refine ⟨zli h, rfl, rfl, fun t ht hk => ?_, fun t ht => ?_, fun t ht hk => ?_⟩
 ·have h1 := (hr t ht).r
  have h2 := (hr t ht).b
  unfold riF nbF seF at h1
  rw [if_pos hk, if_neg (by omega), if_neg (by omega), if_pos hk] at h1
  simp only [Bool.and_eq_true, decide_eq_true_eq] at h1
  omega
 ·have h1 := (hr t ht).r
  unfold riF txF at h1
  simp only [Bool.and_eq_true, decide_eq_true_eq] at h1
  have h2 := h1.1.1.2
  have emp : ∀ {x : ByteArray}, (x.toList == []) = true -> x.size <= 65536 := fun {x} hx => by
   rw [beq_iff_eq, ByteArray.toList_eq] at hx
   have : x.data.toList.length = 0 := by rw [hx]; rfl
   have h3 : x.size = x.data.toList.length := by simp
   omega
  split at h2
  ·have := zbs h2; omega
  ·split at h2
   ·rw [Bool.or_eq_true] at h2
    rcases h2 with h2 | h2
    ·exact emp h2
    ·have := zbs h2; omega
   ·split at h2
    ·have := of_decide_eq_true h2; omega
    ·split at h2
     ·have := beq_iff_eq.1 h2; omega
     ·exact emp h2
 ·have h1 := (hr t ht).r
  unfold riF nbF at h1
  rw [if_neg (by omega)] at h1
  simp only [Bool.and_eq_true, decide_eq_true_eq] at h1
  have h2 := h1.1.2
  rcases hk with hk | hk | hk <;> rw [hk] at h2 <;> (have h3 : t.nn <= 0 := h2.2; omega)
theorem zdU (s : ByteArray) (w : World) (hg : GW w) (q : Nat × Int) (hq : zcl (zaz s) s = .inr q) (hne : ¬ q.2 = 0) : Calls Tryz.prog 40 #[.string s] w fun e w' => e = pnc q.1 q.2 /\ Below w.heap.size w w' := by
 have HL : Hid (∀ _ : Unit, Calls Tryz.prog 61 #[.string s] w fun e w' => e = .returned (.tuple #[.slice none 0 0, .agg #[.int .i64 q.1, .int .i64 q.2]]) /\ Below w.heap.size w w') := fun _ => by
  have := zif s w hg.s
  rw [hq] at this
  exact this
 have HU : Hid (∀ a c W, Calls Tryz.prog 60 #[.int .i64 a, .int .i64 c] W fun e W' => e = pnc a c /\ W' = W) := fun a c W => zcQ a c W
 have t1 : (q.2 != 0) = true := by simpa using hne
 clear hg hq hne
 go_enter Tryz.func40, Tryz.ntmps40
 go_wp2_with fail
 refine (HL.out ()).mono ?_
 rintro e w1 ⟨rfl, hb⟩
 have HB : Hid (Below w.heap.size w w1) := hb
 clear hb HL
 go_wp2_with fail
 refine (HU.out _ _ _).mono ?_
 rintro e w2 ⟨rfl, rfl⟩
 exact zac rfl ⟨rfl, HB.out.alloc HB.out.size _⟩
theorem zcK (s : ByteArray) (w : World) (hg : GW w) (l : List Tk) (hl : zcl (zaz s) s = .inl l) : Calls Tryz.prog 40 #[.string s] w fun e w' => ∃ b tv, e = .returned (.pointer (some ⟨b, 0, none⟩)) /\ RS (mkE l) s.size w w' b tv 0 0 (.slice none 0 0) [] := by
 have hlen := zli hl
 obtain ⟨i0, hinf, hz0, hz1, hz2⟩ := info_parts Tryz.info36
 have HL : Hid (∀ _ : Unit, Calls Tryz.prog 61 #[.string s] w fun e w' => (∃ v, e = .returned (.tuple #[v, .agg #[.int .i64 0, .int .i64 0]]) /\ w'.ownsRow w.heap.size 115 9 v l.length (tkc l)) /\ Below w.heap.size w w') := fun _ => by
  have := zif s w hg.s
  rw [hl] at this
  exact this
 have HTk : Hid (zhY (mkE l) s.size = l ++ [enT s.size]) := rfl
 clear hg hl
 go_enter Tryz.func40, Tryz.ntmps40
 go_wp2_with fail
 refine (HL.out ()).mono ?_
 rintro e w1 ⟨⟨v, rfl, ho⟩, hb⟩
 have HB : Hid (Below w.heap.size w w1) := hb
 clear hb HL
 have hO2 := ho.alloc (.cells #[.int .i64 0, .int .i64 0] 39)
 have hs1 := HB.out.size
 go_wp2_with (at_builtin; refine wpList_append_lies _ rfl _ _ 111 rfl w.heap.size 115 i0 (tkG tk0) 9 80 Tryz.underlying111 hinf hz0 hz1 hz2 rfl (by decide) _ _ _ rfl (hO2.alloc _) ⟨w1.heap.size + 1, 0, none⟩ 1 1 (tkV (enT s.size)) rfl rfl ?c1 (zn6 _) (by decide) ?c3 ?c4 ?c5 (w1.heap.size + 1 + 1) (by simp) ?_)
 case c1 =>
  have hh := heap_alloc_new (w1.alloc (.cells #[.int .i64 0, .int .i64 0] 39)) (.cells (tkC (enT s.size)) 115)
  rw [World.size_alloc] at hh
  exact World.news_of_block (cs := tkC (enT s.size)) (t := 115) (fr := (0, 0)) hh
 case c3 => unfold maxLen; omega
 case c4 => omega
 case c5 => rw [World.size_alloc, World.size_alloc]; omega
 intro g cap w4 hown hgrow hat hlt4
 have hbl : Below w.heap.size w w4 := ((HB.out.alloc hs1 _).alloc (by rw [World.size_alloc]; omega) _).grown hgrow (by rw [World.size_alloc, World.size_alloc]; omega) (fun k e => (ho.lt k e).1)
 have HR := (show Hid (∃ b tv, w4.heap.size = b /\ Value.slice (some ⟨g, 0, none⟩) (l.length + 1) cap = tv /\ RS (mkE l) s.size w (w4.alloc (.cells #[.slice (some ⟨g, 0, none⟩) (l.length + 1) cap, .int .i64 0, .int .i64 0, .slice none 0 0] 117)) b tv 0 0 (.slice none 0 0) []) from
  ⟨_, _, rfl, rfl, ⟨hbl.alloc hbl.size _, hbl.size, ⟨heap_alloc_new w4 _⟩, by
   have h1 := hown.alloc (.cells #[.slice (some ⟨g, 0, none⟩) (l.length + 1) cap, .int .i64 0, .int .i64 0, .slice none 0 0] 117)
   rw [HTk.out, List.length_append, List.length_singleton, ze7, zjP]
   exact h1, World.ownsRow_nil _ _ _ _, Nat.zero_le _, Nat.zero_le _⟩⟩)
 clear hown hgrow hat hlt4 hbl ho hO2
 go_wp2_with fail
 go_ret
 obtain ⟨b, tv, h1, h2, h3⟩ := HR.out
 exact ⟨b, tv, by rw [<- h1]; rfl, h3⟩
theorem zlk {E : PE} (hE : OkE E) {z : Nat} {w0 : World} (hv : R.VB w0) {b : Nat} {tv : Value} {i : Nat} {W : World} {v : Value} {L : List Nd} (h : RS E z w0 W b tv i 0 v L) (q : Nat × Int) (hq : exN E i = .inr q) : Calls Tryz.prog 63 #[.pointer (some ⟨b, 0, none⟩)] W fun e W' => e = pnc (plA E z q.1) q.2 /\ Below w0.heap.size w0 W' := by
 have hi := h.hi
 have H1 : Hid (RS E z w0 (W.setCell ⟨b, 3, none⟩ (.slice none 0 0)) b tv i 0 (.slice none 0 0) []) := h.s3 (World.ownsRow_nil _ _ _ _)
 have HX : Hid (∀ W, RS E z w0 W b tv i 0 (.slice none 0 0) [] -> Calls Tryz.prog 89 #[.pointer (some ⟨b, 0, none⟩)] W fun e W' => e = pnc (plA E z q.1) q.2 /\ Below w0.heap.size w0 W') := fun W h => by
  have := zkq hE hv (z := z) (b := b) (tv := tv) (d := 0) hi W _ _ h (Nat.zero_le _)
  rw [zjO, hq] at this
  exact this
 obtain ⟨k0, k1, k2, k3⟩ := h.x.cl
 have f3 := h.x.fz 3
 clear h hE hv hq
 go_enter Tryz.func63, Tryz.ntmps63
 go_wp2_with fail
 refine (HX.out _ H1.out).mono ?_
 rintro e w1 ⟨rfl, hb⟩
 exact zac rfl ⟨rfl, hb⟩
theorem zhw {E : PE} (hE : OkE E) {z : Nat} {w0 : World} (hv : R.VB w0) {b : Nat} {tv : Value} {i : Nat} {W : World} {v : Value} {L : List Nd} (h : RS E z w0 W b tv i 0 v L) (a : Nat) (ns : List Nd) (hq : exN E i = .inl (a, ns)) : Calls Tryz.prog 63 #[.pointer (some ⟨b, 0, none⟩)] W fun e W' => ∃ v', e = .returned v' /\ RS E z w0 W' b tv a 0 v' ns /\ Fr W W' b (.slice none 0 0) v' := by
 have hi := h.hi
 have H1 : Hid (RS E z w0 (W.setCell ⟨b, 3, none⟩ (.slice none 0 0)) b tv i 0 (.slice none 0 0) []) := h.s3 (World.ownsRow_nil _ _ _ _)
 have HF1 : Hid (Fr W (W.setCell ⟨b, 3, none⟩ (.slice none 0 0)) b (.slice none 0 0) (.slice none 0 0)) := Fr.set _ _ _ _ _
 have HX : Hid (∀ W, RS E z w0 W b tv i 0 (.slice none 0 0) [] -> Calls Tryz.prog 89 #[.pointer (some ⟨b, 0, none⟩)] W fun e W' => e = .returned (.tuple #[]) /\ ∃ v', RS E z w0 W' b tv a 0 v' ns /\ Fr W W' b (.slice none 0 0) v') := fun W h => by
  have := zkq hE hv (z := z) (b := b) (tv := tv) (d := 0) hi W _ _ h (Nat.zero_le _)
  rw [zjO, hq] at this
  exact this
 obtain ⟨k0, k1, k2, k3⟩ := h.x.cl
 have f3 := h.x.fz 3
 clear h hE hv hq
 go_enter Tryz.func63, Tryz.ntmps63
 go_wp2_with fail
 refine (HX.out _ H1.out).mono ?_
 rintro e w1 ⟨rfl, v1, h1, hf1⟩
 have H2 := hO h1
 have HF2 : Hid (Fr W w1 b (.slice none 0 0) v1) := HF1.out.trans hf1
 clear h1 hf1 H1 HF1 HX k0 k1 k2 k3 f3
 obtain ⟨k0, k1, k2, k3⟩ := H2.out.x.cl
 go_wp2_with fail
 go_ret
 exact ⟨v1, rfl, H2.out, HF2.out⟩
end Go.Proofs.YtnpifgcgjgddoaaGreatDoor.N
