/- DERIVED. Plain mathematics and walks, laid together (15). -/
import Derived.Test.YtnpifgcgjgddoaaGreatDoorCards
import Derived.Test.YtnpifgcgjgddoaaGreatDoorTie
import Derived.WalkKit
import Derived.ProofKit
import Derived.OpenShut
import Derived.ShutString
import Derived.ChangeOld
import Derived.ChangeSame
import Derived.SizedLaws
import Derived.FnData
import Derived.Deep.DeepHandedRow
import Derived.Lib.LaidTab
import Derived.Deep.SlicePairs
import Derived.Lib.SmallJoins
import Derived.Laws.IdiomArrays
import Derived.Lib.Builder
import Derived.Test.YtnpifgcgjgddoaaGreatDoorPw14
set_option maxRecDepth 100000
set_option maxHeartbeats 8000000
namespace Go.Proofs.YtnpifgcgjgddoaaGreatDoor
open Go.RowKit
theorem zoq {s : ByteArray} (h : (s.toList == []) = true) : s = ⟨#[]⟩ := ziy (by have := zd4 h; omega)
theorem zd5 {k s0 s1 s2 s3 : Int} {s : ByteArray} (n3 : ¬ k = 3) (n28 : ¬ k = 28) (n5 : ¬ k = 5) (h : seF k s s0 s1 s2 s3 = true) : s0 = 0 /\ s1 = 0 /\ s2 = 0 /\ s3 = 0 := by
 unfold seF at h
 rw [if_neg n3, if_neg n28, if_neg n5] at h
 simpa using h
theorem ziD {k : Int} {s : ByteArray} (n1 : ¬ k = 1) (n21 : ¬ k = 21) (n2 : ¬ k = 2) (n28 : ¬ k = 28) (h : txF k s = true) : s = ⟨#[]⟩ := by
 unfold txF at h
 rw [if_neg n1, if_neg n21, if_neg n2, if_neg n28] at h
 exact zoq h
theorem zfq {t : Tk} (hr : riF t = true) (hb : TkB t) : Aln (tkX t) t.kd t.nn t.tx t.s0 t.s1 t.s2 t.s3 := by
 obtain ⟨h1, h2, h3, h4, h5, h6⟩ := zop hr
 have hs := zqp h3
 have u0 := hb.u0
 have u1 := hb.u1
 have u2 := hb.u2
 have u3 := hb.u3
 have u4 := hb.u4
 obtain ⟨kd, nn, fr, en, tx, s0, s1, s2, s3⟩ := t
 unfold tkX
 dsimp only at *
 clear hr hb
 by_cases n1 : kd = 1
 ·subst n1
  obtain ⟨rfl, rfl, rfl, rfl⟩ := zd5 (by omega) (by omega) (by omega) h6
  obtain rfl : nn = 0 := by rw [if_neg (by omega)] at h5; have : gtK 1 = 0 := rfl; omega
  rw [if_pos rfl]
  exact zqs h3
 rw [if_neg n1]
 by_cases n21 : kd = 21
 ·subst n21
  obtain ⟨rfl, rfl, rfl, rfl⟩ := zd5 (by omega) (by omega) (by omega) h6
  obtain rfl : nn = 0 := by rw [if_neg (by omega)] at h5; have : gtK 21 = 0 := rfl; omega
  rw [if_pos rfl]
  unfold txF at h3
  rw [if_neg (by omega), if_pos rfl] at h3
  rcases Bool.or_eq_true_iff.1 h3 with h | h
  ·obtain rfl := zoq h
   exact zqv
  ·have := (zbE h).1
   unfold gnm
   rw [if_neg (by omega)]
   exact al_grp h
 rw [if_neg n21]
 by_cases n2 : kd = 2
 ·subst n2
  obtain ⟨rfl, rfl, rfl, rfl⟩ := zd5 (by omega) (by omega) (by omega) h6
  obtain rfl : nn = 0 := by rw [if_neg (by omega)] at h5; have : gtK 2 = 0 := rfl; omega
  rw [if_pos rfl]
  exact al_lit tx hs
 rw [if_neg n2]
 by_cases n3 : kd = 3
 ·subst n3
  obtain rfl := ziD (by omega) (by omega) (by omega) (by omega) h3
  obtain rfl : nn = 0 := by rw [if_neg (by omega)] at h5; have : gtK 3 = 0 := rfl; omega
  rw [if_pos rfl]
  obtain ⟨x0, x1, x2, x3⟩ := zoo s0 s1 s2 s3 ⟨u0, u1⟩ u2 u3 u4
  have h := al_cls (mkS s0 s1 s2 s3)
  rw [x0, x1, x2, x3] at h
  exact h
 rw [if_neg n3]
 by_cases n28 : kd = 28
 ·subst n28
  obtain rfl : nn = 0 := by rw [if_neg (by omega)] at h5; have : gtK 28 = 0 := rfl; omega
  rw [if_pos rfl]
  have hsz : tx.size = 1 := by
   unfold txF at h3
   rw [if_neg (by omega), if_neg (by omega), if_neg (by omega), if_pos rfl] at h3
   have := of_decide_eq_true h3
   omega
  obtain ⟨c, rfl⟩ : ∃ c, tx = tx8 [c] := by
   obtain ⟨⟨l⟩⟩ := tx
   match l, hsz with
   | [c], _ => exact ⟨c, rfl⟩
  have hc : chr (tx8 [c]) 0 = (c.toNat : Int) := by rw [zay]; rfl
  unfold seF at h6
  rw [if_neg (by omega), if_pos rfl, hc, Int.toNat_natCast] at h6
  simp only [Bool.and_eq_true, beq_iff_eq] at h6
  obtain ⟨q, rfl, rfl, rfl, rfl⟩ := h6
  exact al_pct c q
 rw [if_neg n28]
 obtain rfl := ziD n1 n21 n2 n28 h3
 by_cases n5 : kd = 5
 ·subst n5
  have h7 := zqq rfl h6
  rw [if_pos rfl] at h5 ⊢
  unfold seF at h6
  rw [if_neg (by omega), if_neg (by omega), if_pos rfl] at h6
  simp only [Bool.and_eq_true, beq_iff_eq] at h6
  obtain ⟨_, _, rfl, rfl, rfl⟩ := h6
  have h := al_pts nn.toNat s0.toNat (by omega) (by omega)
  rw [show ((nn.toNat : Nat) : Int) = nn from by omega, show ((s0.toNat : Nat) : Int) = s0 from by omega] at h
  exact h
 rw [if_neg n5] at h5 ⊢
 obtain ⟨rfl, rfl, rfl, rfl⟩ := zd5 n3 n28 n5 h6
 by_cases n4 : kd = 4
 ·subst n4
  rw [if_pos rfl]
  have hg : gtK 4 = 999999 := rfl
  have h := al_num nn.toNat (by omega)
  rw [show ((nn.toNat : Nat) : Int) = nn from by omega] at h
  exact h
 rw [if_neg n4]
 by_cases n13 : kd = 13
 ·subst n13
  rw [if_pos rfl]
  have hg : gtK 13 = 50 := rfl
  have h := zlc [94] 13 nn.toNat (by omega) (.inl ⟨rfl, rfl⟩)
  rw [show ((nn.toNat : Nat) : Int) = nn from by omega] at h
  rw [show (⟨#[94]⟩ ++ txO (dgT 10 nn.toNat) : ByteArray) = tx8 ([94] ++ dgT 10 nn.toNat) from by unfold txO; apply ByteArray.ext; simp]
  exact h
 rw [if_neg n13]
 by_cases n14 : kd = 14
 ·subst n14
  rw [if_pos rfl]
  have hg : gtK 14 = 50 := rfl
  have h := zlc [94, 43] 14 nn.toNat (by omega) (.inr (.inl ⟨rfl, rfl⟩))
  rw [show ((nn.toNat : Nat) : Int) = nn from by omega] at h
  rw [show (⟨#[94, 43]⟩ ++ txO (dgT 10 nn.toNat) : ByteArray) = tx8 ([94, 43] ++ dgT 10 nn.toNat) from by unfold txO; apply ByteArray.ext; simp]
  exact h
 rw [if_neg n14]
 by_cases n15 : kd = 15
 ·subst n15
  rw [if_pos rfl]
  have hg : gtK 15 = 50 := rfl
  have h := zlc [94, 45] 15 nn.toNat (by omega) (.inr (.inr ⟨rfl, rfl⟩))
  rw [show ((nn.toNat : Nat) : Int) = nn from by omega] at h
  rw [show (⟨#[94, 45]⟩ ++ txO (dgT 10 nn.toNat) : ByteArray) = tx8 ([94, 45] ++ dgT 10 nn.toNat) from by unfold txO; apply ByteArray.ext; simp]
  exact h
 rw [if_neg n15]
 have hg : gtK kd = 0 := by unfold gtK; rw [if_neg n4, if_neg (by omega)]
 obtain rfl : nn = 0 := by omega
 have h := al_sig kd.toNat (by omega) ⟨by omega, by omega, by omega, by omega, by omega, by omega, by omega, by omega, by omega, by omega, by omega⟩
 rw [show ((kd.toNat : Nat) : Int) = kd from by omega] at h
 by_cases n29 : kd = 29
 ·subst n29; rw [if_pos rfl]; exact h
 rw [if_neg n29]
 by_cases n30 : kd = 30
 ·subst n30; rw [if_pos rfl]; exact h
 rw [if_neg n30]
 unfold sgX at h
 rw [if_neg (by omega), if_neg (by omega)] at h
 exact h
theorem zgW {t : Tk} (hr : riF t = true) (hb : TkB t) {s : ByteArray} {b : Nat} (ha : Ag (tkX t) 0 s b (tkX t).size) (he : zdU (chr s (b + (tkX t).size)) = true) : 0 < (tkX t).size /\ zb5 s b = b /\ b < s.size /\ b + (tkX t).size <= s.size /\ zaA s b = .inl (mvT t b (tkX t).size) := by
 have h := zfq hr hb
 have h1 := zjr h.p h.b.b h.b.c h.o (m := (tkX t).size) (by show ((tkX t).size : Int) = ((0 + (tkX t).size : Nat) : Int); omega) ha
 have h2 := zm8 h.p h.o (m := (tkX t).size) (by show ((tkX t).size : Int) = ((0 + (tkX t).size : Nat) : Int); omega) ha (.inl he)
 exact ⟨h.p, h1.1, h1.2, ha.in h.p (by omega), h2⟩
theorem zqx (s : ByteArray) : zb5 s s.size = s.size := by rw [zb9, if_neg (by omega)]
structure Rgt (t : Tk) : Prop where
 r : riF t = true
 b : TkB t
theorem Rgt.plain {k n a e : Int} {tx : ByteArray} (h : riF ⟨k, n, a, e, tx, 0, 0, 0, 0⟩ = true) (hn : n <= 1114111) : Rgt ⟨k, n, a, e, tx, 0, 0, 0, 0⟩ := ⟨h, ⟨by show n < _; omega, by show (0 : Int) <= 0; omega, by show (0 : Int) < _; omega, by show (0 : Int) <= 0 /\ (0 : Int) < _; omega, by show (0 : Int) <= 0 /\ (0 : Int) < _; omega, by show (0 : Int) <= 0 /\ (0 : Int) < _; omega⟩⟩
theorem zca (x : BitVec 256) (i : Nat) : 0 <= wd x i /\ wd x i < 18446744073709551616 := by
 unfold wd
 have := (x.extractLsb' (64 * i) 64).isLt
 omega
theorem zor {s : ByteArray} {b : Nat} (hh : hdB (chr s b) = true) (hle : ¬ 32 < spN nmB s b - b) : zfo (s.extract b (spN nmB s b)) = true := by
 have hnm : nmB (chr s b) = true := by unfold nmB; rw [hh]; rfl
 obtain ⟨h1, h2⟩ := zbr (P := nmB) (by decide) hnm
 have h3 := zbs nmB s (by decide) (b + 1)
 have h4 := zbV nmB s (by decide) b (by omega)
 obtain ⟨_, _, h6, h7⟩ := za8 nmB s (by decide) _ b rfl
 generalize spN nmB s b = e at *
 have hsz : (s.extract b e).size = e - b := by rw [ByteArray.size_extract]; omega
 have hc : ∀ k, k < e - b -> chr (s.extract b e) k = chr s (b + k) := fun k hk => zed (by omega) h4
 unfold zfo
 rw [hsz, decide_eq_true (by omega), decide_eq_true (by omega), hc 0 (by omega), Nat.add_zero, hh]
 have hr : spN nmB (s.extract b e) 0 = e - b := by
  refine zgS (by decide) (by omega) (fun k _ hk => ?_) ?_
  ·rw [hc k hk]; exact h7 (b + k) (by omega) (by omega)
  ·rw [zas (by rw [hsz]; omega)]; decide
 rw [hr]
 simp
theorem ziE (s : ByteArray) (i : Nat) (base : Int) (hb : 0 <= base) : ∀ k, (∀ j, j < k -> 0 <= zbj (chr s (i + j))) -> 0 <= zbn s i base k := by
 intro k
 induction k with
 | zero => intro _; exact Int.le_refl _
 | succ k ih =>
  intro h
  have h1 := ih (fun j hj => h j (by omega))
  have h2 := h k (by omega)
  have h3 := Int.mul_nonneg h1 hb
  show 0 <= zbn s i base k * base + zbj (chr s (i + k))
  omega
theorem zos {c : Int} (h : dgB c = true) : 0 <= zbj c := by
 unfold dgB at h
 simp only [Bool.and_eq_true, decide_eq_true_eq] at h
 unfold zbj
 rw [if_pos h]
 omega
theorem hx_hex {c : Int} (h : hxB c = true) : 0 <= zbj c := by
 unfold hxB at h
 rcases Bool.or_eq_true_iff.1 h with h | h
 ·exact zos h
 ·simp only [Bool.and_eq_true, decide_eq_true_eq] at h
  unfold zbj
  rw [if_neg (by omega), if_pos h]
  omega
theorem zqy {s : ByteArray} {d : Nat} {m n : Int} (h : zdd s d m = .inl n) : 0 <= n /\ n <= m := by
 unfold zdd at h
 split at h
 ·cases h
 split at h
 ·cases h
 ·next q1 q2 =>
  cases h
  obtain ⟨_, _, _, h7⟩ := za8 dgB s (by decide) _ d rfl
  refine ⟨ziE _ _ _ (by omega) _ (fun j hj => zos (h7 (d + j) (by omega) (by omega))), ?_⟩
  omega
theorem zld {s : ByteArray} {b d : Nat} {k : Int} {t : Tk} (hk : k = 4 ∨ k = 13 ∨ k = 14 ∨ k = 15) (h : nmR s b d k = .inl t) : Rgt t := by
 unfold nmR at h
 cases hn : zdd s d (gtK k) with
 | inr e => rw [hn] at h; cases h
 | inl n =>
  rw [hn] at h
  cases h
  obtain ⟨h1, h2⟩ := zqy hn
  have h3 := gtK_le k
  refine Rgt.plain ?_ (by omega)
  have em : ((⟨#[]⟩ : ByteArray).toList == []) = true := by rw [ByteArray.toList_eq]; rfl
  unfold riF txF nbF seF
  rcases hk with rfl | rfl | rfl | rfl <;> simp [] <;> omega
theorem zle (s : ByteArray) (q : Int) (b : Nat) : ∀ (f : Nat) (out : List Int) (i : Nat) (t : Tk), zbF s q b f out i = .inl t -> Rgt t := by
 intro f
 induction f with
 | zero => intro out i t h; rw [zbF] at h; cases h
 | succ f ih =>
  intro out i t h
  rw [zbF] at h
  split at h
  ·cases h
  split at h
  ·split at h
   ·cases h
   ·next q2 =>
    cases h
    refine Rgt.plain ?_ (by omega)
    unfold riF txF nbF seF gtK
    have := zam out
    simp
    omega
  split at h
  ·cases h
  split at h
  ·exact ih _ _ _ h
  ·split at h
   ·cases h
   ·exact ih _ _ _ h
theorem zlf {a e : Int} {s : ByteArray} (h : zfo s = true) : riF ⟨1, 0, a, e, s, 0, 0, 0, 0⟩ = true := by
 unfold riF txF nbF seF gtK
 simp [h]
theorem zot {a e : Int} {s : ByteArray} (h : zfo s = true) : riF ⟨21, 0, a, e, s, 0, 0, 0, 0⟩ = true := by
 unfold riF txF nbF seF gtK
 simp [h]
theorem zhT {a e : Int} : riF ⟨21, 0, a, e, ⟨#[]⟩, 0, 0, 0, 0⟩ = true := by
 have em : ((⟨#[]⟩ : ByteArray).toList == []) = true := by rw [ByteArray.toList_eq]; rfl
 unfold riF txF nbF seF gtK
 simp []
theorem znd {s : ByteArray} {b d : Nat} {t : Tk} (h : zck s b d = .inl t) : Rgt t := by
 unfold zck at h
 split at h
 ·next hh =>
  split at h
  ·cases h
  ·next hl =>
   split at h
   ·cases h; exact Rgt.plain (zot (zor hh hl)) (by omega)
   ·cases h; exact Rgt.plain zhT (by omega)
 ·cases h; exact Rgt.plain zhT (by omega)
def sgK (k : Int) : Bool := k == 0 || k == 13 || k == 14 || k == 15 || k == 21 || k == 29 || k == 30 || k == 27 || (decide (6 <= k) && decide (k <= 12)) || (decide (16 <= k) && decide (k <= 20)) || (decide (22 <= k) && decide (k <= 26))
theorem sgC_in (c0 c1 : Int) : sgK (sgC c0 c1).1 = true := by
 have h : ∀ l : List (Int × List UInt8), (∀ p ∈ l, sgK p.1 = true) -> sgK (zc1 c0 c1 l).1 = true := by
  intro l
  induction l with
  | nil => intro _; rfl
  | cons p l ih =>
   intro h
   rw [zc1]
   split
   ·exact h p (List.mem_cons_self ..)
   ·exact ih (fun q hq => h q (List.mem_cons_of_mem _ hq))
 rw [<- ziw]
 exact h sgTab (by decide)
theorem zou {k a e : Int} (h : sgK k = true) (h0 : ¬ k = 0) (h1 : ¬ (k = 13 ∨ k = 14 ∨ k = 15)) (h2 : ¬ k = 21) : riF ⟨k, 0, a, e, ⟨#[]⟩, 0, 0, 0, 0⟩ = true := by
 have em : ((⟨#[]⟩ : ByteArray).toList == []) = true := by rw [ByteArray.toList_eq]; rfl
 simp only [sgK, Bool.or_eq_true, Bool.and_eq_true, beq_iff_eq, decide_eq_true_eq] at h
 unfold riF txF nbF seF gtK
 dsimp only
 rw [if_neg (show ¬ k = 1 by omega), if_neg (show ¬ k = 21 by omega), if_neg (show ¬ k = 2 by omega), if_neg (show ¬ k = 28 by omega), if_neg (show ¬ k = 5 by omega), if_neg (show ¬ k = 4 by omega), if_neg h1, if_neg (show ¬ k = 3 by omega), if_neg (show ¬ k = 28 by omega), if_neg (show ¬ k = 5 by omega), em, decide_eq_true (show 1 <= k by omega), decide_eq_true (show k <= 30 by omega)]
 rfl
theorem ziF {s : ByteArray} {b : Nat} {t : Tk} (h : zbm s b = .inl t) : Rgt t := by
 have hi := sgC_in (chr s b) (chr s (b + 1))
 rw [<- za9] at hi
 unfold zbm at h
 split at h
 ·cases h
 split at h
 ·next q => exact zld (.inr q) h
 split at h
 ·exact znd h
 ·next h0 h1 h2 => cases h; exact Rgt.plain (zou hi h0 h1 h2) (by omega)
theorem zov {n m a e : Int} (h0 : 0 <= n) (h1 : n <= m) (h2 : m <= 1114111) : Rgt ⟨5, n, a, e, ⟨#[]⟩, m, 0, 0, 0⟩ := by
 have em : ((⟨#[]⟩ : ByteArray).toList == []) = true := by rw [ByteArray.toList_eq]; rfl
 refine ⟨?_, ⟨by show n < _; omega, by show 0 <= m; omega, by show m < _; omega, by show (0 : Int) <= 0 /\ (0 : Int) < _; omega, by show (0 : Int) <= 0 /\ (0 : Int) < _; omega, by show (0 : Int) <= 0 /\ (0 : Int) < _; omega⟩⟩
 unfold riF txF nbF seF
 simp []
 omega
theorem zlg {s : ByteArray} {a : Nat} (h : (ptP s a).2.2 = true) : 0 <= (ptP s a).1 /\ (ptP s a).1 <= 1114111 := by
 unfold ptP at h ⊢
 split at h
 ·cases h
 ·next q =>
  rw [if_neg q]
  obtain ⟨_, _, _, h7⟩ := za8 hxB s (by decide) _ a rfl
  exact ⟨ziE _ _ _ (by omega) _ (fun j hj => hx_hex (h7 (a + j) (by omega) (by omega))), of_decide_eq_true h⟩
theorem zne {s : ByteArray} {b : Nat} {t : Tk} (h : zbQ s b = .inl t) : Rgt t := by
 unfold zbQ at h
 split at h
 ·cases h
 next q1 =>
 have p1 := zlg (s := s) (a := b + 3) (by simpa using q1)
 split at h
 ·split at h
  ·cases h
  next q2 =>
  have p2 := zlg (s := s) (a := (ptP s (b + 3)).2.1 + 1) (by
   by_cases q : (ptP s ((ptP s (b + 3)).2.1 + 1)).2.2 = false
   ·exact absurd (.inl q) q2
   ·simpa using q)
  split at h
  ·cases h; exact zov p1.1 (by omega) p2.2
  ·cases h
 ·split at h
  ·cases h; exact zov p1.1 (Int.le_refl _) p1.2
  ·cases h
theorem znf {s : ByteArray} {b : Nat} {t : Tk} (_hb : b < s.size) (h : zaA s b = .inl t) : Rgt t := by
 unfold zaA at h
 split at h
 ·next hh =>
  unfold zb0 at h
  split at h
  ·cases h
  ·next hl => cases h; exact Rgt.plain (zlf (zor hh hl)) (by omega)
 split at h
 ·exact zld (.inl rfl) h
 split at h
 ·exact zle _ _ _ _ _ _ _ h
 split at h
 ·cases hr : zal s b with
  | inr p =>
   rw [hr, clT] at h
   split at h <;> cases h
  | inl p =>
   rw [hr] at h
   cases h
   have em : ((⟨#[]⟩ : ByteArray).toList == []) = true := by rw [ByteArray.toList_eq]; rfl
   refine ⟨?_, ⟨by show (0 : Int) < _; omega, (zca _ _).1, (zca _ _).2, zca _ _, zca _ _, zca _ _⟩⟩
   unfold riF txF nbF seF gtK
   simp []
 split at h
 ·unfold zcp at h
  split at h
  ·exact zne h
  split at h
  ·exact ziF h
  split at h
  ·next q =>
   cases h
   obtain ⟨q1, q2⟩ := q
   refine ⟨?_, ⟨by show (0 : Int) < _; omega, (zca _ _).1, (zca _ _).2, zca _ _, zca _ _, zca _ _⟩⟩
   have hsz : (s.extract (b + 1) (b + 2)).size = 1 := by rw [ByteArray.size_extract]; omega
   have hc : chr (s.extract (b + 1) (b + 2)) 0 = chr s (b + 1) := by rw [zed (by omega) (by omega)]
   unfold riF txF nbF seF gtK
   dsimp only
   rw [hc, hsz, q2]
   simp
  ·cases h
 ·exact ziF h
theorem zqz (s : ByteArray) : ∀ (l : List Tk) (i : Nat), Chn s i l -> ∀ t ∈ l, Rgt t := by
 intro l
 induction l with
 | nil => intro i _ t ht; cases ht
 | cons a l ih =>
  intro i h t ht
  obtain ⟨h1, h2, e, _, _, _, h3⟩ := h
  rcases List.mem_cons.1 ht with rfl | h4
  ·exact znf h1 h2
  ·exact ih e h3 t h4
theorem zhU {s : ByteArray} {l : List Tk} (h : zcA (zaA s) s = .inl l) : ∀ t ∈ l, Rgt t := zqz s l 0 (zhQ h).2
theorem zlh (s : ByteArray) (q : Int) (b : Nat) (hb : b <= s.size) : ∀ (f : Nat) (out : List Int) (i : Nat) (p : Nat × Int), zbF s q b f out i = .inr p -> p.1 <= s.size := by
 intro f
 induction f with
 | zero => intro out i p h; rw [zbF] at h; cases h; exact hb
 | succ f ih =>
  intro out i p h
  rw [zbF] at h
  split at h
  ·cases h; exact hb
  next hc =>
  have hi : i < s.size := zaD (by omega)
  split at h
  ·split at h
   ·cases h; exact hb
   ·cases h
  split at h
  ·cases h; exact Nat.le_of_lt hi
  split at h
  ·exact ih _ _ _ h
  ·split at h
   ·cases h; exact Nat.le_of_lt hi
   ·exact ih _ _ _ h
theorem zli {s : ByteArray} {b d : Nat} {k : Int} {p : Nat × Int} (hb : b <= s.size) (h : nmR s b d k = .inr p) : p.1 <= s.size := by
 unfold nmR at h
 cases hn : zdd s d (gtK k) with
 | inr e => rw [hn] at h; cases h; exact hb
 | inl n => rw [hn] at h; cases h
theorem ziG {s : ByteArray} {b : Nat} {p : Nat × Int} (hb : b <= s.size) (h : zbm s b = .inr p) : p.1 <= s.size := by
 have hl := zbC s b hb
 unfold zbm at h
 split at h
 ·cases h; exact hb
 split at h
 ·exact zli hb h
 split at h
 ·unfold zck at h
  split at h
  ·split at h
   ·cases h; exact hl
   ·split at h <;> cases h
  ·cases h
 ·cases h
theorem zng {s : ByteArray} {b : Nat} {p : Nat × Int} (hb : b <= s.size) (h : zbQ s b = .inr p) : p.1 <= s.size := by
 unfold zbQ at h
 split at h
 ·cases h; exact hb
 split at h
 ·split at h
  ·cases h; exact hb
  split at h
  ·cases h
  ·cases h; exact hb
 ·split at h
  ·cases h
  ·cases h; exact hb
theorem znh {s : ByteArray} {b : Nat} {p : Nat × Int} (hb : b <= s.size) (h : zaA s b = .inr p) : p.1 <= s.size := by
 unfold zaA at h
 split at h
 ·unfold zb0 at h
  split at h
  ·cases h; exact hb
  ·cases h
 split at h
 ·exact zli hb h
 split at h
 ·exact zlh _ _ _ hb _ _ _ _ h
 split at h
 ·cases hr : zal s b with
  | inl q => rw [hr] at h; cases h
  | inr q =>
   rw [hr, clT] at h
   split at h
   ·cases h; exact hb
   ·cases h; exact zkZ hr
 split at h
 ·unfold zcp at h
  split at h
  ·exact zng hb h
  split at h
  ·exact ziG hb h
  split at h
  ·cases h
  ·cases h; exact hb
 ·exact ziG hb h
theorem zlj (s : ByteArray) : ∀ (f : Nat) (out : List Tk) (i : Nat) (p : Nat × Int), zcX (zaA s) s f out i = .inr p -> p.1 <= s.size /\ p.2 ≠ 0 := by
 intro f
 induction f with
 | zero => intro out i p h; rw [zcX] at h; cases h
 | succ f ih =>
  intro out i p h
  rw [zcX] at h
  split at h
  ·next hi =>
   cases ho : zaA s i with
   | inr q => rw [ho] at h; cases h; exact ⟨znh (Nat.le_of_lt hi) ho, zkP s i _ ho⟩
   | inl t => rw [ho] at h; exact ih _ _ _ h
  ·cases h
theorem zlk {s : ByteArray} {p : Nat × Int} (h : zcA (zaA s) s = .inr p) : p.1 <= s.size /\ p.2 ≠ 0 := by
 unfold zcA at h
 split at h
 ·cases h; exact ⟨Nat.zero_le _, by decide⟩
 ·exact zlj s _ _ _ _ h
theorem zqA (s : ByteArray) : ∀ (l : List Tk) (i : Nat), i <= s.size -> Chn s i l -> i + l.length <= s.size := by
 intro l
 induction l with
 | nil => intro i hi _; simpa using hi
 | cons a l ih =>
  intro i hi h
  obtain ⟨h1, _, e, _, h3, h4, h5⟩ := h
  have h6 := ih e h4 h5
  have h7 := zhM s i hi
  rw [List.length_cons]
  omega
theorem zll {s : ByteArray} {l : List Tk} (h : zcA (zaA s) s = .inl l) : l.length <= 65536 := by
 obtain ⟨h1, h2⟩ := zhQ h
 have := zqA s l 0 (by omega) h2
 omega
end Go.Proofs.YtnpifgcgjgddoaaGreatDoor
namespace Go.Proofs.YtnpifgcgjgddoaaGreatDoor.N
open Go.RowKit
structure GW (W : World) : Prop where
 s : SG W
 v : R.VB W
theorem GW.later {W W' : World} (h : GW W) (hb : Below W.heap.size W W') : GW W' := ⟨h.s.later hb, h.v.below hb h.v.lt⟩
theorem okE_of {s : ByteArray} {l : List Tk} (h : zcA (zaA s) s = .inl l) : OkE (mkE l) := by
 have hr := zhU h
 refine ⟨zll h, rfl, rfl, fun t ht hk => ?_, fun t ht => ?_, fun t ht hk => ?_⟩
 ·have h1 := (hr t ht).r
  have h2 := (hr t ht).b
  unfold riF nbF seF at h1
  rw [if_pos hk, if_neg (by omega), if_neg (by omega), if_pos hk] at h1
  simp only [Bool.and_eq_true, decide_eq_true_eq] at h1
  omega
 ·have h1 := (hr t ht).r
  unfold riF txF at h1
  simp only [Bool.and_eq_true, decide_eq_true_eq] at h1
  have h2 := h1.1.1.2
  have emp : ∀ {x : ByteArray}, (x.toList == []) = true -> x.size <= 65536 := fun {x} hx => by
   rw [beq_iff_eq, ByteArray.toList_eq] at hx
   have : x.data.toList.length = 0 := by rw [hx]; rfl
   have h3 : x.size = x.data.toList.length := by simp
   omega
  split at h2
  ·have := zbE h2; omega
  ·split at h2
   ·rw [Bool.or_eq_true] at h2
    rcases h2 with h2 | h2
    ·exact emp h2
    ·have := zbE h2; omega
   ·split at h2
    ·have := of_decide_eq_true h2; omega
    ·split at h2
     ·have := beq_iff_eq.1 h2; omega
     ·exact emp h2
 ·have h1 := (hr t ht).r
  unfold riF nbF at h1
  rw [if_neg (by omega)] at h1
  simp only [Bool.and_eq_true, decide_eq_true_eq] at h1
  have h2 := h1.1.2
  rcases hk with hk | hk | hk <;> rw [hk] at h2 <;> (have h3 : t.nn <= 0 := h2.2; omega)
theorem zgX (s : ByteArray) (w : World) (hg : GW w) (q : Nat × Int) (hq : zcA (zaA s) s = .inr q) (hne : ¬ q.2 = 0) : Calls Tryz.prog 40 #[.string s] w fun e w' => e = pnc q.1 q.2 /\ Below w.heap.size w w' := by
 have HL : Hid (∀ _ : Unit, Calls Tryz.prog 61 #[.string s] w fun e w' => e = .returned (.tuple #[.slice none 0 0, .agg #[.int .i64 q.1, .int .i64 q.2]]) /\ Below w.heap.size w w') := fun _ => by
  have := zio s w hg.s
  rw [hq] at this
  exact this
 have HU : Hid (∀ a c W, Calls Tryz.prog 60 #[.int .i64 a, .int .i64 c] W fun e W' => e = pnc a c /\ W' = W) := fun a c W => zcR a c W
 have t1 : (q.2 != 0) = true := by simpa using hne
 clear hg hq hne
 go_enter Tryz.func40, Tryz.ntmps40
 go_wp2_with fail
 refine (HL.out ()).mono ?_
 rintro e w1 ⟨rfl, hb⟩
 have HB : Hid (Below w.heap.size w w1) := hb
 clear hb HL
 go_wp2_with fail
 refine (HU.out _ _ _).mono ?_
 rintro e w2 ⟨rfl, rfl⟩
 exact zae rfl ⟨rfl, HB.out.alloc HB.out.size _⟩
theorem zgY (s : ByteArray) (w : World) (hg : GW w) (l : List Tk) (hl : zcA (zaA s) s = .inl l) : Calls Tryz.prog 40 #[.string s] w fun e w' => ∃ b tv, e = .returned (.pointer (some ⟨b, 0, none⟩)) /\ RS (mkE l) s.size w w' b tv 0 0 (.slice none 0 0) [] := by
 have hlen := zll hl
 obtain ⟨i0, hinf, hz0, hz1, hz2⟩ := info_parts Tryz.info36
 have HL : Hid (∀ _ : Unit, Calls Tryz.prog 61 #[.string s] w fun e w' => (∃ v, e = .returned (.tuple #[v, .agg #[.int .i64 0, .int .i64 0]]) /\ w'.ownsRow w.heap.size 115 9 v l.length (tkc l)) /\ Below w.heap.size w w') := fun _ => by
  have := zio s w hg.s
  rw [hl] at this
  exact this
 have HTk : Hid (zh7 (mkE l) s.size = l ++ [enT s.size]) := rfl
 clear hg hl
 go_enter Tryz.func40, Tryz.ntmps40
 go_wp2_with fail
 refine (HL.out ()).mono ?_
 rintro e w1 ⟨⟨v, rfl, ho⟩, hb⟩
 have HB : Hid (Below w.heap.size w w1) := hb
 clear hb HL
 have hO2 := ho.alloc (.cells #[.int .i64 0, .int .i64 0] 39)
 have hs1 := HB.out.size
 go_wp2_with (at_builtin; refine wpList_append_lies _ rfl _ _ 111 rfl w.heap.size 115 i0 (tkG tk0) 9 80 Tryz.underlying111 hinf hz0 hz1 hz2 rfl (by decide) _ _ _ rfl (hO2.alloc _) ⟨w1.heap.size + 1, 0, none⟩ 1 1 (tkV (enT s.size)) rfl rfl ?c1 (zn9 _) (by decide) ?c3 ?c4 ?c5 (w1.heap.size + 1 + 1) (by simp) ?_)
 case c1 =>
  have hh := heap_alloc_new (w1.alloc (.cells #[.int .i64 0, .int .i64 0] 39)) (.cells (tkC (enT s.size)) 115)
  rw [World.size_alloc] at hh
  exact World.news_of_block (cs := tkC (enT s.size)) (t := 115) (fr := (0, 0)) hh
 case c3 => unfold maxLen; omega
 case c4 => omega
 case c5 => rw [World.size_alloc, World.size_alloc]; omega
 intro g cap w4 hown hgrow hat hlt4
 have hbl : Below w.heap.size w w4 := ((HB.out.alloc hs1 _).alloc (by rw [World.size_alloc]; omega) _).grown hgrow (by rw [World.size_alloc, World.size_alloc]; omega) (fun k e => (ho.lt k e).1)
 have HR := (show Hid (∃ b tv, w4.heap.size = b /\ Value.slice (some ⟨g, 0, none⟩) (l.length + 1) cap = tv /\ RS (mkE l) s.size w (w4.alloc (.cells #[.slice (some ⟨g, 0, none⟩) (l.length + 1) cap, .int .i64 0, .int .i64 0, .slice none 0 0] 117)) b tv 0 0 (.slice none 0 0) []) from
  ⟨_, _, rfl, rfl, ⟨hbl.alloc hbl.size _, hbl.size, ⟨heap_alloc_new w4 _⟩, by
   have h1 := hown.alloc (.cells #[.slice (some ⟨g, 0, none⟩) (l.length + 1) cap, .int .i64 0, .int .i64 0, .slice none 0 0] 117)
   rw [HTk.out, List.length_append, List.length_singleton, zfg, zjS]
   exact h1, World.ownsRow_nil _ _ _ _, Nat.zero_le _, Nat.zero_le _⟩⟩)
 clear hown hgrow hat hlt4 hbl ho hO2
 go_wp2_with fail
 go_ret
 obtain ⟨b, tv, h1, h2, h3⟩ := HR.out
 exact ⟨b, tv, by rw [<- h1]; rfl, h3⟩
theorem zqB {E : PE} (hE : OkE E) {z : Nat} {w0 : World} (hv : R.VB w0) {b : Nat} {tv : Value} {i : Nat} {W : World} {v : Value} {L : List Nd} (h : RS E z w0 W b tv i 0 v L) (q : Nat × Int) (hq : exN E i = .inr q) : Calls Tryz.prog 63 #[.pointer (some ⟨b, 0, none⟩)] W fun e W' => e = pnc (plA E z q.1) q.2 /\ Below w0.heap.size w0 W' := by
 have hi := h.hi
 have H1 : Hid (RS E z w0 (W.setCell ⟨b, 3, none⟩ (.slice none 0 0)) b tv i 0 (.slice none 0 0) []) := h.s3 (World.ownsRow_nil _ _ _ _)
 have HX : Hid (∀ W, RS E z w0 W b tv i 0 (.slice none 0 0) [] -> Calls Tryz.prog 89 #[.pointer (some ⟨b, 0, none⟩)] W fun e W' => e = pnc (plA E z q.1) q.2 /\ Below w0.heap.size w0 W') := fun W h => by
  have := zkt hE hv (z := z) (b := b) (tv := tv) (d := 0) hi W _ _ h (Nat.zero_le _)
  rw [gN_ex, hq] at this
  exact this
 obtain ⟨k0, k1, k2, k3⟩ := h.x.cl
 have f3 := h.x.fz 3
 clear h hE hv hq
 go_enter Tryz.func63, Tryz.ntmps63
 go_wp2_with fail
 refine (HX.out _ H1.out).mono ?_
 rintro e w1 ⟨rfl, hb⟩
 exact zae rfl ⟨rfl, hb⟩
theorem zlm {E : PE} (hE : OkE E) {z : Nat} {w0 : World} (hv : R.VB w0) {b : Nat} {tv : Value} {i : Nat} {W : World} {v : Value} {L : List Nd} (h : RS E z w0 W b tv i 0 v L) (a : Nat) (ns : List Nd) (hq : exN E i = .inl (a, ns)) : Calls Tryz.prog 63 #[.pointer (some ⟨b, 0, none⟩)] W fun e W' => ∃ v', e = .returned v' /\ RS E z w0 W' b tv a 0 v' ns /\ Fr W W' b (.slice none 0 0) v' := by
 have hi := h.hi
 have H1 : Hid (RS E z w0 (W.setCell ⟨b, 3, none⟩ (.slice none 0 0)) b tv i 0 (.slice none 0 0) []) := h.s3 (World.ownsRow_nil _ _ _ _)
 have HF1 : Hid (Fr W (W.setCell ⟨b, 3, none⟩ (.slice none 0 0)) b (.slice none 0 0) (.slice none 0 0)) := Fr.set _ _ _ _ _
 have HX : Hid (∀ W, RS E z w0 W b tv i 0 (.slice none 0 0) [] -> Calls Tryz.prog 89 #[.pointer (some ⟨b, 0, none⟩)] W fun e W' => e = .returned (.tuple #[]) /\ ∃ v', RS E z w0 W' b tv a 0 v' ns /\ Fr W W' b (.slice none 0 0) v') := fun W h => by
  have := zkt hE hv (z := z) (b := b) (tv := tv) (d := 0) hi W _ _ h (Nat.zero_le _)
  rw [gN_ex, hq] at this
  exact this
 obtain ⟨k0, k1, k2, k3⟩ := h.x.cl
 have f3 := h.x.fz 3
 clear h hE hv hq
 go_enter Tryz.func63, Tryz.ntmps63
 go_wp2_with fail
 refine (HX.out _ H1.out).mono ?_
 rintro e w1 ⟨rfl, v1, h1, hf1⟩
 have H2 := hO h1
 have HF2 : Hid (Fr W w1 b (.slice none 0 0) v1) := HF1.out.trans hf1
 clear h1 hf1 H1 HF1 HX k0 k1 k2 k3 f3
 obtain ⟨k0, k1, k2, k3⟩ := H2.out.x.cl
 go_wp2_with fail
 go_ret
 exact ⟨v1, rfl, H2.out, HF2.out⟩
end Go.Proofs.YtnpifgcgjgddoaaGreatDoor.N
namespace Go.Proofs.YtnpifgcgjgddoaaGreatDoor
open Go.ChangeShapes Go.WideShapes Go.ChangeAt Go.RowKit
theorem own : ownKnob Tryz.prog.godebug = none := by kernel_rfl
theorem zqC : laidOutB Tryz.prog = true := by kernel_rfl
theorem gTab : Tryz.prog.globalNamed "harrow/token.signs" = some 1 := by kernel_rfl
theorem gTabType : (Tryz.prog.globals[1]?).map (·.type) = some 185 := by kernel_rfl
theorem gBlk : Tryz.prog.globalNamed "harrow/runes.blocks" = some 6 := by kernel_rfl
theorem gBlkType : (Tryz.prog.globals[6]?).map (·.type) = some 219 := by kernel_rfl
theorem Tryz.cells169 : Tryz.prog.cellsOf 169 = 2 := by kernel_rfl
theorem Tryz.cellsInt : Tryz.prog.cellsOf 3 = 1 := by kernel_rfl
theorem Tryz.cellsStr : Tryz.prog.cellsOf 9 = 1 := by kernel_rfl
theorem Tryz.cells219 : Tryz.prog.cellsOf 219 = 10 := by kernel_rfl
theorem Tryz.cells218 : Tryz.prog.cellsOf 218 = 2 := by kernel_rfl
theorem Tryz.cells21 : Tryz.prog.cellsOf 21 = 1 := by kernel_rfl
theorem zni {H : Type} {enc : TypeId × Value -> H} {W : World} {base fuel : Nat} {sp : Nat -> Bool} {held : Bool} {cs : List Value} {z : DataW H × List MemPlace}
  (h : DataW.trod enc Tryz.prog W base sp held fuel 169 cs = some z) : ∃ a s, cs = [.int .i64 a, .string s] /\ z.1 = .agg [.lit (.int .i64 a), .lit (.string s.data.toList)] := by
 obtain ⟨y0, y1, n, rfl, hl, h0, h1⟩ := trod_struct2 Tryz.underlying169 h
 rw [Tryz.cells169] at hl
 match cs, hl with
 | [c0, c1], _ =>
  dsimp only at h0 h1
  rw [Tryz.cellsInt] at h0
  rw [Tryz.cellsStr] at h1
  obtain ⟨a, e0, e0', _⟩ := DataW.trod_int Tryz.underlying3 h0
  obtain ⟨b, e1, e1', _⟩ := DataW.trod_string Tryz.underlying9 h1
  have e0 : [c0] = [Value.int .i64 a] := e0
  have e1 : [c1] = [Value.string b] := e1
  cases e0
  cases e1
  exact ⟨a, b, rfl, by rw [e0', e1']⟩
theorem znj {H : Type} : (Rows.laid_harrow_token_signs : DataW H) = .agg (sgTab.map fun p => .agg [.lit (.int .i64 p.1), .lit (.string p.2)]) := rfl
theorem zqD : ∀ (i : Nat) v, tabL[i]? = some v -> ∃ j p, sgTab[j]? = some p /\ ((i = 2 * j /\ v = .int .i64 p.1) ∨ (i = 2 * j + 1 /\ v = .string ⟨p.2.toArray⟩)) := by
 have key : ∀ (l : List (Int × List UInt8)) (i : Nat) (v : Value), (l.flatMap fun p => [Value.int .i64 p.1, .string ⟨p.2.toArray⟩])[i]? = some v -> ∃ j p, l[j]? = some p /\ ((i = 2 * j /\ v = .int .i64 p.1) ∨ (i = 2 * j + 1 /\ v = .string ⟨p.2.toArray⟩)) := by
  intro l
  induction l with
  | nil => intro i v h; simp at h
  | cons p l ih =>
   intro i v h
   rw [List.flatMap_cons] at h
   match i, h with
   | 0, h => exact ⟨0, p, rfl, .inl ⟨rfl, by simpa using h.symm⟩⟩
   | 1, h => exact ⟨0, p, rfl, .inr ⟨rfl, by simpa using h.symm⟩⟩
   | i + 2, h =>
    obtain ⟨j, q, h1, h2⟩ := ih i v (by simpa using h)
    exact ⟨j + 1, q, by simpa using h1, by
     rcases h2 with ⟨x, y⟩ | ⟨x, y⟩
     ·exact .inl ⟨by omega, y⟩
     ·exact .inr ⟨by omega, y⟩⟩
 exact key sgTab
theorem zjv {W : World} {ps : List MemPlace} (h : DataW.LaidVars Tryz.prog W [("harrow/token.signs", Rows.laid_harrow_token_signs)] ps) : SG W := by
 obtain ⟨g', t', cs, fuel, p, q, hg', ht', hvar, hd, _, _⟩ := h
 obtain rfl := Option.some.inj (gTab.symm.trans hg')
 obtain rfl := Option.some.inj (gTabType.symm.trans ht')
 obtain ⟨xs, m, rfl, hx, hl, hn, hel⟩ := DataW.trod_array Tryz.underlying185 hd
 have hx1 := congrArg Prod.fst hx
 dsimp only at hx1
 rw [znj] at hx1
 injection hx1 with hx1
 rw [Tryz.cells169] at hel
 have hcell := World.var?_cell gTab hvar
 have key : ∀ j p, sgTab[j]? = some p -> W.cell? ⟨1, 2 * j, none⟩ = some (.int .i64 p.1) /\ W.cell? ⟨1, 2 * j + 1, none⟩ = some (.string ⟨p.2.toArray⟩) := fun j p hp => by
  have hj : j < 24 := (List.getElem?_eq_some_iff.1 hp).1
  have k0 := hel j hj
  obtain ⟨x, hxj⟩ : ∃ x, xs[j]? = some x := ⟨_, List.getElem?_eq_getElem (by omega)⟩
  rw [hxj] at k0
  obtain ⟨a, s, e1, e2⟩ := zni k0
  have h3 : (xs.map (·.1))[j]? = some x.1 := by rw [List.getElem?_map, hxj]; rfl
  rw [<- hx1, List.getElem?_map, hp] at h3
  have h3 : DataW.agg [.lit (.int .i64 p.1), .lit (.string p.2)] = x.1 := Option.some.inj h3
  rw [e2] at h3
  injection h3 with h3
  injection h3 with h4 h5
  injection h5 with h5 _
  injection h4 with h4
  injection h4 with h4 h4
  injection h5 with h5
  injection h5 with h5
  have hs : s = ⟨p.2.toArray⟩ := by rw [h5]
  have c0 : cs.toList[2 * j]? = some (.int .i64 p.1) := by
   have := congrArg (fun l => l[0]?) e1
   simp only [List.getElem?_take, List.getElem?_drop, List.getElem?_cons_zero] at this
   rw [if_pos (by omega), show j * 2 + 0 = 2 * j from by omega, <- h4] at this
   exact this
  have c1 : cs.toList[2 * j + 1]? = some (.string ⟨p.2.toArray⟩) := by
   have := congrArg (fun l => l[1]?) e1
   simp only [List.getElem?_take, List.getElem?_drop, List.getElem?_cons_succ, List.getElem?_cons_zero] at this
   rw [if_pos (by omega), show j * 2 + 1 = 2 * j + 1 from by omega, hs] at this
   exact this
  exact ⟨(hcell (2 * j)).trans (by simpa using c0), (hcell (2 * j + 1)).trans (by simpa using c1)⟩
 refine ⟨World.block_lt_of_cell? W _ (key 0 _ rfl).1, fun i v hv => ?_⟩
 obtain ⟨j, p, hp, hor⟩ := zqD i v hv
 obtain ⟨h1, h2⟩ := key j p hp
 rw [Nat.zero_add]
 rcases hor with ⟨rfl, rfl⟩ | ⟨rfl, rfl⟩
 ·exact h1
 ·exact h2
theorem zdv {P : Program} {W : World} {x : String × DataW Unit} {r : List (String × DataW Unit)} {ps : List MemPlace} (h : DataW.LaidVars P W (x :: r) ps) : ∃ q, DataW.LaidVars P W r q := by
 obtain ⟨_, _, _, _, _, q, _, _, _, _, hq, _⟩ := h
 exact ⟨q, hq⟩
theorem zcM {H : Type} {enc : TypeId × Value -> H} {W : World} {base fuel : Nat} {sp : Nat -> Bool} {held : Bool} {c0 c1 : Value} {z : DataW H × List MemPlace}
  (h : DataW.trod enc Tryz.prog W base sp held fuel 218 [c0, c1] = some z) : ∃ a b, c0 = .int .i32 a /\ c1 = .int .i32 b /\ z.1 = .agg [.lit (.int .i32 a), .lit (.int .i32 b)] := by
 obtain ⟨y0, y1, n, rfl, _, h0, h1⟩ := trod_struct2 Tryz.underlying218 h
 dsimp only at h0 h1
 rw [Tryz.cells21] at h0 h1
 obtain ⟨a, e0, e0', _⟩ := DataW.trod_int Tryz.underlying21 h0
 obtain ⟨b, e1, e1', _⟩ := DataW.trod_int Tryz.underlying21 h1
 have e0 : [c0] = [Value.int .i32 a] := e0
 have e1 : [c1] = [Value.int .i32 b] := e1
 cases e0
 cases e1
 exact ⟨a, b, rfl, rfl, by rw [e0', e1']⟩
theorem zjw {W : World} {rest : List (String × DataW Unit)} {ps : List MemPlace} (h : DataW.LaidVars Tryz.prog W (("harrow/runes.blocks", Rows.laid_harrow_runes_blocks) :: rest) ps) : R.VB W := by
 obtain ⟨g', t', cs, fuel, p, q, hg', ht', hvar, hd, _, _⟩ := h
 obtain rfl := Option.some.inj (gBlk.symm.trans hg')
 obtain rfl := Option.some.inj (gBlkType.symm.trans ht')
 obtain ⟨xs, m, rfl, hx, hl, hn, hel⟩ := DataW.trod_array Tryz.underlying219 hd
 have hx1 := congrArg Prod.fst hx
 dsimp only at hx1
 rw [Tryz.cells219] at hl
 have hcell := World.var?_cell gBlk hvar
 obtain ⟨l⟩ := cs
 match l, hl with
 | [a0, a1, a2, a3, a4, a5, a6, a7, a8, a9], _ =>
  match xs, hn with
  | [x0, x1, x2, x3, x4], _ =>
   have k0 := hel 0 (by omega)
   have k1 := hel 1 (by omega)
   have k2 := hel 2 (by omega)
   have k3 := hel 3 (by omega)
   have k4 := hel 4 (by omega)
   rw [Tryz.cells218] at k0 k1 k2 k3 k4
   obtain ⟨p0, q0, rfl, rfl, r0⟩ := zcM (show DataW.trod _ Tryz.prog _ _ _ _ m 218 [a0, a1] = some x0 from k0)
   obtain ⟨p1, q1, rfl, rfl, r1⟩ := zcM (show DataW.trod _ Tryz.prog _ _ _ _ m 218 [a2, a3] = some x1 from k1)
   obtain ⟨p2, q2, rfl, rfl, r2⟩ := zcM (show DataW.trod _ Tryz.prog _ _ _ _ m 218 [a4, a5] = some x2 from k2)
   obtain ⟨p3, q3, rfl, rfl, r3⟩ := zcM (show DataW.trod _ Tryz.prog _ _ _ _ m 218 [a6, a7] = some x3 from k3)
   obtain ⟨p4, q4, rfl, rfl, r4⟩ := zcM (show DataW.trod _ Tryz.prog _ _ _ _ m 218 [a8, a9] = some x4 from k4)
   simp only [Rows.laid_harrow_runes_blocks, List.map_cons, List.map_nil, r0, r1, r2, r3, r4, DataW.agg.injEq, List.cons.injEq, DataW.lit.injEq, Lit.int.injEq, and_true, true_and] at hx1
   obtain ⟨⟨e0, e1⟩, ⟨e2, e3⟩, ⟨e4, e5⟩, ⟨e6, e7⟩, e8, e9⟩ := hx1
   subst e0 e1 e2 e3 e4 e5 e6 e7 e8 e9
   have c0 := hcell 0
   exact ⟨World.block_lt_of_cell? W _ c0, c0, hcell 1, hcell 2, hcell 3, hcell 4, hcell 5, hcell 6, hcell 7, hcell 8, hcell 9⟩
abbrev laidL : List (String × DataW Unit) := [("math/bits.deBruijn32tab", Rows.laid_math_bits_deBruijn32tab), ("math/bits.deBruijn64tab", Rows.laid_math_bits_deBruijn64tab), ("internal/strconv.uint64pow10", Rows.laid_internal_strconv_uint64pow10), ("harrow/runes.blocks", Rows.laid_harrow_runes_blocks), ("harrow/token.signs", Rows.laid_harrow_token_signs)]
theorem zjx {W : World} (h : laidMetH Tryz.prog laidL W) : N.GW W := by
 have h : laidMet Tryz.prog laidL W := h
 obtain ⟨ps, h1, _⟩ := h
 obtain ⟨q2, h2⟩ := zdv h1
 obtain ⟨q3, h3⟩ := zdv h2
 obtain ⟨q4, h4⟩ := zdv h3
 obtain ⟨q5, h5⟩ := zdv h4
 exact ⟨zjv h5, zjw h4⟩
def zjy (k : Nat) (cs : Array Value) (w : World) : World := { w with heap := w.heap.modify k fun
   | .cells _ t frozen => .cells cs t frozen
   | o => o }
def zln (w : World) : World := zjy 6 #[.int .i32 0, .int .i32 127, .int .i32 128, .int .i32 2047, .int .i32 2048, .int .i32 55295, .int .i32 57344, .int .i32 65535, .int .i32 65536, .int .i32 1114111] (zjy 5 #[.int .u8 0, .int .u8 1, .int .u8 56, .int .u8 2, .int .u8 57, .int .u8 49, .int .u8 28, .int .u8 3, .int .u8 61, .int .u8 58, .int .u8 42, .int .u8 50, .int .u8 38, .int .u8 29, .int .u8 17, .int .u8 4, .int .u8 62, .int .u8 47, .int .u8 59, .int .u8 36, .int .u8 45, .int .u8 43, .int .u8 51, .int .u8 22, .int .u8 53, .int .u8 39, .int .u8 33, .int .u8 30, .int .u8 24, .int .u8 18, .int .u8 12, .int .u8 5, .int .u8 63, .int .u8 55, .int .u8 48, .int .u8 27, .int .u8 60, .int .u8 41, .int .u8 37, .int .u8 16, .int .u8 46, .int .u8 35, .int .u8 44, .int .u8 21, .int .u8 52, .int .u8 32, .int .u8 23, .int .u8 11, .int .u8 54, .int .u8 26, .int .u8 40, .int .u8 15, .int .u8 34, .int .u8 20, .int .u8 31, .int .u8 10, .int .u8 25, .int .u8 14, .int .u8 19, .int .u8 9, .int .u8 13, .int .u8 8, .int .u8 7, .int .u8 6] (zjy 4 #[.int .u8 0, .int .u8 1, .int .u8 28, .int .u8 2, .int .u8 29, .int .u8 14, .int .u8 24, .int .u8 3, .int .u8 30, .int .u8 22, .int .u8 20, .int .u8 15, .int .u8 25, .int .u8 17, .int .u8 4, .int .u8 8, .int .u8 31, .int .u8 27, .int .u8 13, .int .u8 23, .int .u8 21, .int .u8 19, .int .u8 16, .int .u8 7, .int .u8 26, .int .u8 12, .int .u8 18, .int .u8 6, .int .u8 11, .int .u8 5, .int .u8 10, .int .u8 9] (zjy 2 #[.int .u64 1, .int .u64 10, .int .u64 100, .int .u64 1000, .int .u64 10000, .int .u64 100000, .int .u64 1000000, .int .u64 10000000, .int .u64 100000000, .int .u64 1000000000, .int .u64 10000000000, .int .u64 100000000000, .int .u64 1000000000000, .int .u64 10000000000000, .int .u64 100000000000000, .int .u64 1000000000000000, .int .u64 10000000000000000, .int .u64 100000000000000000, .int .u64 1000000000000000000, .int .u64 10000000000000000000] (zjy 1 #[.int .i64 29, .string ⟨#[37, 101]⟩, .int .i64 30, .string ⟨#[37, 102]⟩, .int .i64 14, .string ⟨#[94, 43]⟩, .int .i64 15, .string ⟨#[94, 45]⟩, .int .i64 13, .string ⟨#[94]⟩, .int .i64 6, .string ⟨#[60, 45]⟩, .int .i64 27, .string ⟨#[45, 62]⟩, .int .i64 7, .string ⟨#[47]⟩, .int .i64 8, .string ⟨#[38]⟩, .int .i64 9, .string ⟨#[33]⟩, .int .i64 10, .string ⟨#[63]⟩, .int .i64 11, .string ⟨#[42]⟩, .int .i64 12, .string ⟨#[43]⟩, .int .i64 16, .string ⟨#[40]⟩, .int .i64 17, .string ⟨#[41]⟩, .int .i64 18, .string ⟨#[46]⟩, .int .i64 21, .string ⟨#[123, 58]⟩, .int .i64 22, .string ⟨#[58, 125]⟩, .int .i64 23, .string ⟨#[123, 124]⟩, .int .i64 24, .string ⟨#[124, 125]⟩, .int .i64 25, .string ⟨#[123, 126]⟩, .int .i64 26, .string ⟨#[126, 125]⟩, .int .i64 19, .string ⟨#[123]⟩, .int .i64 20, .string ⟨#[125]⟩] (zjy 0 #[.string ⟨#[]⟩, .string ⟨#[101, 109, 112, 116, 121]⟩, .string ⟨#[102, 97, 105, 108]⟩, .string ⟨#[97, 110, 121]⟩, .string ⟨#[116, 101, 120, 116]⟩, .string ⟨#[115, 101, 116]⟩, .string ⟨#[99, 97, 108, 108]⟩, .string ⟨#[115, 101, 113]⟩, .string ⟨#[99, 104, 111, 105, 99, 101]⟩, .string ⟨#[115, 116, 97, 114]⟩, .string ⟨#[112, 108, 117, 115]⟩, .string ⟨#[111, 112, 116]⟩, .string ⟨#[97, 110, 100]⟩, .string ⟨#[110, 111, 116]⟩, .string ⟨#[116, 105, 109, 101, 115]⟩, .string ⟨#[108, 101, 97, 115, 116]⟩, .string ⟨#[109, 111, 115, 116]⟩, .string ⟨#[112, 108, 97, 99, 101]⟩, .string ⟨#[115, 117, 98]⟩, .string ⟨#[103, 114, 111, 117, 112]⟩, .string ⟨#[108, 105, 115, 116]⟩, .string ⟨#[115, 117, 98, 115, 116]⟩, .string ⟨#[115, 116, 114, 105, 110, 103]⟩, .string ⟨#[112, 105, 99, 107]⟩] (w))))))
end Go.Proofs.YtnpifgcgjgddoaaGreatDoor
namespace Go.Proofs.YtnpifgcgjgddoaaGreatDoor.T
open Go.ChangeShapes Go.WideShapes Go.ChangeAt Go.RowKit
theorem Tryz.cells51 : Tryz.prog.cellsOf 51 = 7 := by kernel_rfl
theorem Tryz.cells49 : Tryz.prog.cellsOf 49 = 4 := by kernel_rfl
theorem Tryz.cells47 : Tryz.prog.cellsOf 47 = 1 := by kernel_rfl
theorem Tryz.cells9 : Tryz.prog.cellsOf 9 = 1 := by kernel_rfl
theorem Tryz.cells3 : Tryz.prog.cellsOf 3 = 1 := by kernel_rfl
theorem Tryz.bytes51 : Tryz.prog.bytesOf 51 = 64 := by kernel_rfl
theorem znk {H : Type} {P : Program} {ts : List TypeId} {ds : List (DataW H)} (h : (DataW.weightsEach P ts ds).all (· <= reachBytes) = true) {j : Nat} {t : TypeId} {d : DataW H} (ht : ts[j]? = some t) (hd : ds[j]? = some d) : ∀ n ∈ d.weights P t, n <= reachBytes := fun n hn => by
 have := List.all_eq_true.1 h _ (DataW.weights_mem_each ht hd n hn)
 simpa using this
theorem zex {H : Type} (P : Program) (e : TypeId) : ∀ (l : List (DataW H)) (d : DataW H), d ∈ l -> ∀ n ∈ d.weights P e, n ∈ DataW.weightsAll P e l
 | [], _, h, _, _ => by cases h
 | a :: l, d, h, n, hn => by
  simp only [DataW.weightsAll, List.mem_append]
  rcases List.mem_cons.1 h with rfl | h
  ·exact .inl hn
  ·exact .inr (zex P e l d h n hn)
theorem list7 {α : Type} {l : List α} (h : l.length = 7) : ∃ a b c d e f g, l = [a, b, c, d, e, f, g] := by
 match l, h with
 | [a, b, c, d, e, f, g], _ => exact ⟨a, b, c, d, e, f, g, rfl⟩
theorem wf64 {n : Int} (h : (Lit.int .u64 n).wf = true) : 0 <= n /\ n < 18446744073709551616 := by
 have := bounds_u64 h
 omega
def SeW (n : Nd) : Prop := (0 <= n.s0 /\ n.s0 < 18446744073709551616) /\ (0 <= n.s1 /\ n.s1 < 18446744073709551616) /\ (0 <= n.s2 /\ n.s2 < 18446744073709551616) /\ (0 <= n.s3 /\ n.s3 < 18446744073709551616)
theorem zqE {H : Type} {enc : TypeId × Value -> H} {W : World} {held : Bool} {n : Nat} {cs : List Value} {x : DataW H × List MemPlace} (h : DataW.trod enc Tryz.prog W 0 (fun _ => true) held n 51 cs = some x) :
  ∃ nd : Nd, cs = ndV nd /\ nd.tx.size ∈ x.1.weights Tryz.prog 51 /\ SeW nd := by
 obtain ⟨y0, y1, y2, y3, k, hx, hl, h0, h1, h2, h3⟩ := Go.Joins.trod_struct4 Tryz.underlying51 h
 rw [Tryz.cells51] at hl
 obtain ⟨a, b, c, d, e, f, g, rfl⟩ := list7 hl
 simp only [Tryz.cells3, Tryz.cells9, Tryz.cells49, List.drop_zero, List.take_succ_cons, List.take_zero, List.drop_succ_cons] at h0 h1 h2 h3
 obtain ⟨N0, e0, _, _⟩ := DataW.trod_int Tryz.underlying3 h0
 obtain ⟨N1, e1, _, _⟩ := DataW.trod_int Tryz.underlying3 h1
 obtain ⟨s, e2, hs, _⟩ := DataW.trod_string Tryz.underlying9 h2
 obtain ⟨z0, z1, z2, z3, k2, _, g0, g1, g2, g3⟩ := trod_array4 Tryz.underlying49 Tryz.cells47 h3
 obtain ⟨M0, f0, _, m0⟩ := DataW.trod_int Tryz.underlying47 g0
 obtain ⟨M1, f1, _, m1⟩ := DataW.trod_int Tryz.underlying47 g1
 obtain ⟨M2, f2, _, m2⟩ := DataW.trod_int Tryz.underlying47 g2
 obtain ⟨M3, f3, _, m3⟩ := DataW.trod_int Tryz.underlying47 g3
 cases e0; cases e1; cases e2; cases f0; cases f1; cases f2; cases f3
 refine ⟨⟨N0, N1, s, M0, M1, M2, M3⟩, rfl, ?_, wf64 m0, wf64 m1, wf64 m2, wf64 m3⟩
 rw [hx, hs]
 simp only [DataW.weights, Tryz.underlying51]
 simp only [DataW.weightsEach, DataW.weights, List.map_cons, List.mem_append, List.mem_singleton]
 right; right; left
 show s.size = s.data.toList.length
 rw [Array.length_toList]
 rfl
theorem znl {H : Type} {enc : TypeId × Value -> H} {W : World} {held : Bool} {v : Value} {d : DataW H} {p : List MemPlace} (h : DataW.Trod enc Tryz.prog W 0 (fun _ => true) held 23 v d p) (hv : ∃ a l c, v = .slice a l c) :
  ∃ A c L, v = .slice A L.length c /\ RdN W A L /\ (A = none -> c = 0 /\ L = []) /\ ((∀ n ∈ d.weights Tryz.prog 23, n <= reachBytes) -> L.length * 64 <= 140737488351232 /\ ∀ n ∈ L, n.tx.size <= 140737488351232) /\ ∀ n ∈ L, SeW n := by
 obtain ⟨fuel, hf⟩ := h
 obtain ⟨a0, len0, cap0, rfl⟩ := hv
 have hr : reachBytes = 140737488351232 := by decide
 rcases Go.Deep.open_slice Tryz.underlying23 hf with ⟨hc, hx⟩ | ⟨a, len, cap, m, n, D, Pl, hc, _, hl, hm, hmm, hx, hall⟩
 ·have hc : [Value.slice a0 len0 cap0] = [.slice none 0 0] := hc
  cases hc
  exact ⟨none, 0, [], rfl, fun q => absurd rfl q, fun _ => ⟨rfl, rfl⟩, fun _ => ⟨by simp, fun n hn => by cases hn⟩, fun n hn => by cases hn⟩
 ·have hc : [Value.slice a0 len0 cap0] = [.slice (some a) len cap] := hc
  cases hc
  simp only [if_true] at hmm
  subst hmm
  have hlm : len0 <= m := hl
  have each : ∀ i, i < len0 -> ∃ nd : Nd, (∀ j u, (ndV nd)[j]? = some u -> W.cell? (a.add (i * 7 + j)) = some u) /\ nd.tx.size ∈ (D i).weights Tryz.prog 51 /\ SeW nd := by
   intro i hi
   obtain ⟨cs', h1, h2⟩ := hall i (by omega)
   rw [Tryz.cells51] at h1
   obtain ⟨_, hlen, hcell⟩ := World.cells?_some h1
   obtain ⟨nd, rfl, hw⟩ := zqE h2
   refine ⟨nd, fun j u hj => ?_, hw⟩
   have hj7 : j < 7 := by
    by_cases q : j < 7
    ·exact q
    ·rw [List.getElem?_eq_none (by show (ndV nd).length <= j; show 7 <= j; omega)] at hj; cases hj
   have e := hcell j (by rw [show (ndV nd).length = 7 from rfl] at *; omega)
   rw [Go.Deep.add_add] at e
   rw [e]
   exact hj
  obtain ⟨F, hF⟩ : ∃ F : Nat -> Nd, ∀ i, i < len0 -> (∀ j u, (ndV (F i))[j]? = some u -> W.cell? (a.add (i * 7 + j)) = some u) /\ (F i).tx.size ∈ (D i).weights Tryz.prog 51 /\ SeW (F i) :=
   ⟨fun i => if h : i < len0 then Classical.choose (each i h) else ⟨0, 0, ⟨#[]⟩, 0, 0, 0, 0⟩, fun i h => by simp only [dif_pos h]; exact Classical.choose_spec (each i h)⟩
  refine ⟨some a, m, (List.range len0).map F, by simp, fun hne => ?_, fun q => (by cases q), fun hw => ?_, fun n hn => ?_⟩
  ·have h0 : 0 < len0 := by
    by_cases q : 0 < len0
    ·exact q
    ·have : len0 = 0 := by omega
     subst this
     exact absurd rfl hne
   obtain ⟨g, off, spot⟩ := a
   have hspot : spot = none := by simpa [Addr.add] using World.cell?_spot ((hF 0 h0).1 0 _ rfl)
   subst hspot
   refine ⟨g, off, rfl, World.block_lt_of_cell? W _ ((hF 0 h0).1 0 _ rfl), fun j nd hj => ?_⟩
   rw [List.getElem?_map] at hj
   have hj2 : j < len0 := by
    by_cases q : j < len0
    ·exact q
    ·rw [List.getElem?_eq_none (by simp; omega)] at hj; cases hj
   rw [List.getElem?_range hj2] at hj
   cases hj
   have key : ∀ i u, (ndV (F j))[i]? = some u -> W.cell? ⟨g, off + j * 7 + i, none⟩ = some u := fun i u hu => by
    have e := (hF j hj2).1 i u hu
    rw [Addr.add_lit, <- Nat.add_assoc] at e
    exact e
   exact ⟨key 0 _ rfl, key 1 _ rfl, key 2 _ rfl, key 3 _ rfl, key 4 _ rfl, key 5 _ rfl, key 6 _ rfl⟩
  ·have hd : d = .slice ((List.range len0).map D) ((List.range (m - len0)).map fun j => D (len0 + j)) := congrArg Prod.fst hx
   rw [hd] at hw
   simp only [DataW.weights, Tryz.underlying23] at hw
   refine ⟨?_, fun nd hnd => ?_⟩
   ·have := hw _ (List.mem_cons_self ..)
    rw [Tryz.bytes51, hr] at this
    simp only [List.length_map, List.length_range] at this ⊢
    omega
   ·obtain ⟨i, hi, rfl⟩ := List.mem_map.1 hnd
    have hi2 := List.mem_range.1 hi
    have := hw _ (List.mem_cons_of_mem _ (List.mem_append_left _ (zex _ 51 _ (D i) (List.mem_map.2 ⟨i, hi, rfl⟩) _ (hF i hi2).2.1)))
    rw [hr] at this
    exact this
  ·obtain ⟨i, hi, rfl⟩ := List.mem_map.1 hn
   exact (hF i (List.mem_range.1 hi)).2.2
end Go.Proofs.YtnpifgcgjgddoaaGreatDoor.T
namespace Go.Proofs.YtnpifgcgjgddoaaGreatDoor.N
open Go.RowKit
theorem znm (b : Nat) (w : World) (h0 : w.cell? ⟨b, 0, none⟩ = some (.pointer none)) (hsh : w.shape? b = some (59, 2)) (hfz : w.frozen? ⟨b, 0, none⟩ = false) :
  Calls Tryz.prog 71 #[.pointer (some ⟨b, 0, none⟩)] w fun e w' => e = .returned (.tuple #[]) /\ w' = w.setCell ⟨b, 0, none⟩ (.pointer (some ⟨b, 0, none⟩)) := by
 obtain ⟨j, hj, hjs⟩ := Option.map_eq_some_iff.1 Tryz.sizeB
 go_enter Tryz.func71, Tryz.ntmps71
 go_wp2
 rw [Lib.run_to_unsafe w ⟨b, 0, none⟩ Tryz.underlying54 Tryz.underlying140 hj (by rw [hjs]; decide) hsh (Nat.zero_lt_succ 1)]
 simp only [Result.andThen]
 rw [Oper.upon_value]
 go_wp2
 rw [run_callFunc_extern Tryz.func94 (by kernel_rfl) (by kernel_rfl) (by kernel_rfl) (e := Extern.AbiNoEscape.same) (by kernel_rfl)]
 rw [Lib.run_noEscape]
 simp only [Result.andThen]
 rw [Oper.upon_value]
 go_wp2
 rw [Lib.run_from_unsafe w ⟨b, 0, none⟩ Tryz.underlying140 Tryz.underlying54 hj hsh (by kernel_rfl)]
 simp only [Result.andThen]
 rw [Oper.upon_value]
 go_wp2
 go_end0
 exact ⟨rfl, rfl⟩
theorem znn (b : Nat) (bs : List Value) (w : World) (h : Lib.IsBuilder 59 5 b b bs w) :
  Calls Tryz.prog 71 #[.pointer (some ⟨b, 0, none⟩)] w fun e w' => e = .returned (.tuple #[]) /\ Lib.BuilderAt 59 5 b b (.pointer (some ⟨b, 0, none⟩)) bs w' /\ Below b w w' /\ KeepT b w w' := by
 rcases h with h | h
 ·refine (znm b w h.cell0 h.shape h.frozen0).mono ?_
  rintro e w' ⟨rfl, rfl⟩
  exact ⟨rfl, h.used _, (Below.refl b w).setCell (p := ⟨b, 0, none⟩) h.1 _, KeepT.setCell b 0 w _⟩
 ·refine (zcQ b w h.cell0).mono ?_
  rintro e w' ⟨rfl, rfl⟩
  exact ⟨rfl, h, Below.refl b _, KeepT.refl b _⟩
theorem zno (b : Nat) (bs : List Value) (s : ByteArray) (w : World) (h : Lib.IsBuilder 59 5 b b bs w) (hlen : bs.length + s.size <= 140737488355328) :
  Calls Tryz.prog 48 #[.pointer (some ⟨b, 0, none⟩), .string s] w fun e w' => e = .returned (.tuple #[.int .i64 s.size, .nilIface]) /\ Lib.IsBuilder 59 5 b b (bs ++ Lib.strCells s) w' /\ Below b w w' /\ KeepT b w w' := by
 obtain ⟨i0, hi, hz0, hz1, hz2⟩ := info_parts Tryz.info5
 go_enter Tryz.func48, Tryz.ntmps48
 go_wp2_with fail
 refine (znn b bs _ h).mono ?_
 rintro e w1 ⟨rfl, h1, hb1, hk1⟩
 have hlt := h1.lt
 obtain ⟨hB, v, hbk, hown, hne⟩ := h1
 have c0 : w1.cell? ⟨b, 0, none⟩ = some (.pointer (some ⟨b, 0, none⟩)) := by rw [Lib.cell_of_heap hbk]; rfl
 have c1 : w1.cell? ⟨b, 1, none⟩ = some v := by rw [Lib.cell_of_heap hbk]; rfl
 go_wp2_with (at_builtin; refine Lib.wpList_append_own_string _ rfl _ _ 55 9 rfl b 5 i0 Tryz.underlying55 Tryz.underlying9 hi hz0 hz1 hz2 _ _ _ rfl hown s rfl ?c3 ?c4 ?c5 ?_)
 case c3 => unfold maxLen; omega
 case c4 => omega
 case c5 => omega
 intro v' w2 hown' hgrow _
 have hb2 : w2.heap[b]? = some (.cells #[.pointer (some ⟨b, 0, none⟩), v] 59 (0, 0)) := by
  rw [hgrow.block b hlt (fun e => hne e.symm)]
  exact hbk
 have d0 : w2.cell? ⟨b, 0, none⟩ = some (.pointer (some ⟨b, 0, none⟩)) := by rw [Lib.cell_of_heap hb2]; rfl
 have d1 : w2.cell? ⟨b, 1, none⟩ = some v := by rw [Lib.cell_of_heap hb2]; rfl
 have f1 : w2.frozen? ⟨b, 1, none⟩ = false := Lib.frozen_of_heap hb2 1
 obtain ⟨ao, n', cap, rfl⟩ : ∃ ao n' cap, v' = .slice ao n' cap := by
  rcases hown'.2 with ⟨hv, _⟩ | ⟨g, cap, cur, hv, _⟩
  ·exact ⟨_, _, _, hv⟩
  ·exact ⟨_, _, _, hv⟩
 go_wp2
 go_ret2
 refine ⟨rfl, .inr ?_, ?_, ?_⟩
 ·exact Lib.BuilderAt.put (T := 59) (e := 5) hB hb2 (bs' := bs ++ Lib.strCells s) (by simpa [Lib.strCells_length] using hown') (by decide)
 ·exact (hb1.grown hgrow (by omega) (fun k hk => (hown.lt k hk).1)).setCell (p := ⟨b, 1, none⟩) hB _
 ·exact (hk1.trans (KeepT.grown hown hgrow)).trans (KeepT.setCell b 1 w2 _)
theorem pg_len (b : Nat) (bs : List Value) (w : World) (h : Lib.IsBuilder 59 5 b b bs w) : Calls Tryz.prog 50 #[.pointer (some ⟨b, 0, none⟩)] w fun e w' => e = .returned (.int .i64 bs.length) /\ w' = w := by
 obtain ⟨p, hB, v, hbk, hown, hne⟩ : ∃ p, Lib.BuilderAt 59 5 b b p bs w := by
  rcases h with h | h
  ·exact ⟨_, h⟩
  ·exact ⟨_, h⟩
 have c1 : w.cell? ⟨b, 1, none⟩ = some v := by rw [Lib.cell_of_heap hbk]; rfl
 obtain ⟨ao, cap, rfl⟩ : ∃ ao cap, v = .slice ao bs.length cap := by
  rcases hown.2 with ⟨hv, hz⟩ | ⟨g, cap, cur, hv, _⟩
  ·exact ⟨none, 0, by rw [hv, hz]⟩
  ·exact ⟨_, _, hv⟩
 go_enter Tryz.func50, Tryz.ntmps50
 go_wp2
 go_ret
 exact ⟨rfl, rfl⟩
theorem zqF (b : Nat) (l : List UInt8) (w : World) (h : Lib.IsBuilder 59 5 b b (Lib.byteCells l) w) (h0 : l ≠ []) : Calls Tryz.prog 51 #[.pointer (some ⟨b, 0, none⟩)] w fun e w' => e = .returned (.string ⟨l.toArray⟩) /\ Below b w w' := by
 obtain ⟨p, hB, v, hbk, hown, hne⟩ : ∃ p, Lib.BuilderAt 59 5 b b p (Lib.byteCells l) w := by
  rcases h with h | h
  ·exact ⟨_, h⟩
  ·exact ⟨_, h⟩
 have hl0 : l.length ≠ 0 := by simpa using h0
 rw [Lib.byteCells_length] at hown
 obtain ⟨g, cap, cur, rfl, hbg, hg, hnc, hcm, hcs, htake⟩ : ∃ g cap cur, v = .slice (some ⟨g, 0, none⟩) l.length cap /\ b <= g /\ w.heap[g]? = some (.cells cur 5 (0, 0)) /\ l.length <= cap /\ cap <= maxLen /\ cur.size = cap * 1 /\ cur.toList.take (l.length * 1) = Lib.byteCells l := by
  rcases hown.2 with ⟨_, hz⟩ | ⟨g, cap, cur, hv, r⟩
  ·exact absurd hz hl0
  ·exact ⟨g, cap, cur, hv, r⟩
 have c1 : w.drew.cell? ⟨b, 1, none⟩ = some (.slice (some ⟨g, 0, none⟩) l.length cap) := by
  have : w.drew.heap[b]? = some (.cells #[p, .slice (some ⟨g, 0, none⟩) l.length cap] 59 (0, 0)) := hbk
  rw [Lib.cell_of_heap this]; rfl
 have hSD : (Builtin.unsafeSliceData_ #[55] 128 #[.slice (some ⟨g, 0, none⟩) l.length cap]).run Tryz.prog w.drew = .ok (.pointer (some ⟨g, 0, none⟩)) w.drew :=
  Lib.run_unsafeSliceData_row _ _ _ _ _ _ (by omega)
 have hUS : (Builtin.unsafeString_ #[128, 3] 9 #[.pointer (some ⟨g, 0, none⟩), .int .i64 l.length]).run Tryz.prog w.drew = .ok (.string ⟨l.toArray⟩) (w.drew.freeze ⟨g, 0, none⟩ l.length) := by
  refine Lib.run_unsafeString_row w.drew 128 3 9 5 Tryz.underlying128 (by kernel_rfl) g cur.size (by have hg' : w.drew.heap[g]? = some (.cells cur 5 (0, 0)) := hg; simp [World.shape?, hg']) l h0 (by omega) (by unfold maxLen at hcm; omega) ?_
  intro j x hx
  have := hown.cells (g := g) rfl j (.int .u8 x.toNat) (by simp [Lib.byteCells, hx])
  exact this
 have mixed : Tryz.prog.follows Departure.mixedOrders = true := by kernel_rfl
 go_enter Tryz.func51, Tryz.ntmps51
 go_wp2
 go_region_o
 all_goals (go_wp2; go_ret; exact ⟨rfl, Lib.below_freeze (Below.drew (Below.refl b w)) (p := ⟨g, 0, none⟩) hbg _⟩)
theorem dlen (s : ByteArray) : s.data.toList.length = s.size := by rw [Array.length_toList]; rfl
def zey (ss : List ByteArray) : List UInt8 := ss.flatMap fun s => s.data.toList
theorem zlo {ss : List ByteArray} {k : Nat} {s : ByteArray} (h : ss[k]? = some s) : zey (ss.take (k + 1)) = zey (ss.take k) ++ s.data.toList := by
 rw [List.take_add_one, h]
 unfold zey
 rw [List.flatMap_append]
 simp
theorem zgZ (ss : List ByteArray) (k : Nat) : (zey (ss.take k)).length <= (zey ss).length := by
 have h : zey ss = zey (ss.take k) ++ zey (ss.drop k) := by
  unfold zey
  rw [<- List.flatMap_append, List.take_append_drop]
 rw [h, List.length_append]
 omega
structure Pg (b : Nat) (w wr : World) (bs : List UInt8) : Prop where
 i : Lib.IsBuilder 59 5 b b (Lib.byteCells bs) wr
 bl : Below b w wr
 k : KeepT b w wr
theorem Pg.start {b : Nat} {w : World} {bs : List UInt8} (h : Lib.IsBuilder 59 5 b b (Lib.byteCells bs) w) : Pg b w w bs := ⟨h, Below.refl _ _, KeepT.refl _ _⟩
theorem zhV {b : Nat} {w : World} {bs : List Value} (h : Lib.IsBuilder 59 5 b b bs w) : b < w.heap.size := by
 rcases h with h | h
 ·exact h.lt
 ·exact h.lt
theorem zf5 {w w' : World} {b : Nat} {bs : List Value} (h : Lib.IsBuilder 59 5 b b bs w) (hb : Below w.heap.size w w') : Lib.IsBuilder 59 5 b b bs w' := by
 have key : ∀ p, Lib.BuilderAt 59 5 b b p bs w -> Lib.BuilderAt 59 5 b b p bs w' := fun p hp => by
  have hlt := hp.lt
  obtain ⟨hB, v, hbk, hown, hne⟩ := hp
  exact ⟨hB, v, (hb.block b hlt).trans hbk, T.za2 hown hb, hne⟩
 exact h.imp (key _) (key _)
theorem Pg.later {b : Nat} {w wr w2 : World} {bs : List UInt8} (h : Pg b w wr bs) (hb : Below wr.heap.size wr w2) : Pg b w w2 bs :=
 ⟨zf5 h.i hb, h.bl.trans (hb.mono (Nat.le_of_lt (zhV h.i))), h.k.trans (KeepT.below hb)⟩
theorem Pg.trans {b : Nat} {w w1 w2 : World} {bs bs' : List UInt8} (h : Pg b w w1 bs) (k : Pg b w1 w2 bs') : Pg b w w2 bs' := ⟨k.i, h.bl.trans k.bl, h.k.trans k.k⟩
structure Fx (W : World) (b g : Nat) (c : Array Value) (t : TypeId) : Prop where
 e : ∃ fr, W.heap[g]? = some (.cells c t fr)
 n : g ≠ b
 t : t ≠ 5
theorem Fx.keep {W W' : World} {b g : Nat} {c : Array Value} {t : TypeId} (h : Fx W b g c t) (k : KeepT b W W') : Fx W' b g c t := by
 obtain ⟨⟨fr, he⟩, hn, ht⟩ := h
 refine ⟨⟨fr, ?_⟩, hn, ht⟩
 rw [k.block g (Array.getElem?_eq_some_iff.1 he).1 hn (fun c' fr' q => by rw [he] at q; cases q; exact ht rfl)]
 exact he
theorem Fx.cell {W : World} {b g : Nat} {c : Array Value} {t : TypeId} (h : Fx W b g c t) (j : Nat) : W.cell? ⟨g, j, none⟩ = c[j]? := by
 obtain ⟨⟨fr, he⟩, _, _⟩ := h
 exact Lib.cell_of_heap he j
theorem zlp (b g : Nat) (bs : List UInt8) (ss : List ByteArray) (w : World) (h : Lib.IsBuilder 59 5 b b (Lib.byteCells bs) w) (hr : Fx w b g (ss.map Value.string).toArray 9) (hlen : bs.length + (zey ss).length <= 140737488355328) (hn : ss.length <= 2) :
  Calls Tryz.prog 27 #[.pointer (some ⟨b, 0, none⟩), .slice (some ⟨g, 0, none⟩) ss.length ss.length] w fun e w' => e = .returned (.tuple #[]) /\ Pg b w w' (bs ++ zey ss) := by
 have HP : Hid (Pg b w w (bs ++ zey (ss.take 0))) := by
  show Pg b w w (bs ++ zey (ss.take 0))
  rw [List.take_zero]; show Pg b w w (bs ++ []); rw [List.append_nil]; exact Pg.start h
 have HR : Hid (Fx w b g (ss.map Value.string).toArray 9) := hr
 have HL : Hid (bs.length + (zey ss).length <= 140737488355328) := hlen
 have HG : Hid (∀ k, k < ss.length -> ∃ s, ss[k]? = some s) := fun k hk => ⟨_, List.getElem?_eq_getElem hk⟩
 have HT : Hid (ss.take ss.length = ss) := List.take_length
 clear h hr hlen
 generalize hm : ss.length = m at *
 go_enter Tryz.func27, Tryz.ntmps27
 go_wp2_with fail
 go_loopw [8] (fun t wr => ∃ k : Nat, k <= m /\ t = .int .i64 k /\ Hid (Pg b w wr (bs ++ zey (ss.take k)))) (fun t _ => m - (intOf t).toNat)
 case atStart => exact ⟨0, by omega, by go_num, HP⟩
 case round =>
  obtain ⟨k, hk, rfl, HW⟩ := hrel
  clear HP
  by_cases hlt : k < m
  ·obtain ⟨s, hs⟩ := HG.out k hlt
   have c0 : wr.cell? ⟨g, k, none⟩ = some (.string s) := by
    rw [(HR.out.keep HW.out.k).cell k]
    simp [hs]
   have HE : Hid (zey (ss.take (k + 1)) = zey (ss.take k) ++ s.data.toList) := zlo hs
   have hle := zgZ ss (k + 1)
   have hL := HL.out
   have HC : Hid (∀ _ : Unit, Calls Tryz.prog 48 #[.pointer (some ⟨b, 0, none⟩), .string s] wr fun e w' => e = .returned (.tuple #[.int .i64 s.size, .nilIface]) /\ Lib.IsBuilder 59 5 b b (Lib.byteCells (bs ++ zey (ss.take k)) ++ Lib.strCells s) w' /\ Below b wr w' /\ KeepT b wr w') := fun _ => zno b _ s wr HW.out.i (by
    rw [HE.out, List.length_append] at hle
    rw [Lib.byteCells_length, List.length_append]
    have := dlen s
    omega)
   have z0 : (0 : Int) <= (k : Int) := by omega
   have z1 : (k : Int) < (m : Int) := by omega
   clear hle hL hs HG HL
   go_wp2_with fail
   refine (HC.out ()).mono ?_
   rintro e w1 ⟨rfl, i1, b1, k1⟩
   have HW2 : Hid (Pg b w w1 (bs ++ zey (ss.take (k + 1)))) := by
    show Pg b w w1 _
    rw [HE.out, <- List.append_assoc]
    refine ⟨?_, HW.out.bl.trans b1, HW.out.k.trans k1⟩
    rw [bcells, <- scells]
    exact i1
   clear HC HE HW i1 b1 k1 c0
   go_wp2_with fail
   go_roundw
   case rel => exact ⟨k + 1, by omega, by go_num, HW2⟩
   case measure => simp [intOf]; omega
  ·have z1 : ¬ (k : Int) < (m : Int) := by omega
   have hkm : k = m := by omega
   subst hkm
   clear HG
   go_wp2_with fail
   go_end0
   have := HW.out
   rw [HT.out] at this
   exact ⟨rfl, this⟩
def hld (op : Int) : Nat := if op = 8 then 0 else if op = 7 then 1 else if op = 12 ∨ op = 13 then 2 else if op = 9 ∨ op = 10 ∨ op = 11 ∨ op = 14 ∨ op = 15 ∨ op = 16 ∨ op = 22 ∨ op = 23 then 3 else 4
abbrev It := Option Tk
def sgI (k : Int) : It := some ⟨k, 0, 0, 0, ⟨#[]⟩, 0, 0, 0, 0⟩
def nuI (k n : Int) : It := some ⟨k, n, 0, 0, ⟨#[]⟩, 0, 0, 0, 0⟩
def txI (k : Int) (s : ByteArray) : It := some ⟨k, 0, 0, 0, s, 0, 0, 0, 0⟩
abbrev Ent := Nat × List It
def zaq (k : Nat) (e : Ent) : List It := if e.1 < k then [sgI 16] ++ (e.2 ++ [sgI 17]) else e.2
def zaB (n : Nd) (a b : Ent) : List It :=
 if n.op = 1 then [sgI 29] else if n.op = 2 then [sgI 30] else if n.op = 3 then [sgI 18] else if n.op = 4 then [txI 2 n.tx]
 else if n.op = 5 then [some ⟨3, 0, 0, 0, ⟨#[]⟩, n.s0, n.s1, n.s2, n.s3⟩] else if n.op = 6 then [txI 1 n.tx]
 else if n.op = 7 then zaq 1 a ++ ([none] ++ zaq 2 b) else if n.op = 8 then zaq 0 a ++ ([none, sgI 7, none] ++ zaq 1 b)
 else if n.op = 9 then zaq 3 a ++ [sgI 11] else if n.op = 10 then zaq 3 a ++ [sgI 12] else if n.op = 11 then zaq 3 a ++ [sgI 10]
 else if n.op = 12 then [sgI 8] ++ zaq 2 a else if n.op = 13 then [sgI 9] ++ zaq 2 a
 else if n.op = 14 then zaq 3 a ++ [nuI 13 n.nn] else if n.op = 15 then zaq 3 a ++ [nuI 14 n.nn] else if n.op = 16 then zaq 3 a ++ [nuI 15 n.nn]
 else if n.op = 17 then [sgI 19, sgI 20] else if n.op = 18 then [sgI 19] ++ (zaq 0 a ++ [sgI 20])
 else if n.op = 19 then [txI 21 n.tx, none] ++ (zaq 0 a ++ [none, sgI 22]) else if n.op = 20 then [sgI 23, none] ++ (zaq 0 a ++ [none, sgI 24])
 else if n.op = 21 then [sgI 25, none] ++ (zaq 0 a ++ [none, sgI 26])
 else if n.op = 22 then zaq 3 a ++ [none, sgI 27, none, txI 2 n.tx] else zaq 3 a ++ [none, sgI 27, none, nuI 4 n.nn]
def zcn (l : List It) : List Tk := l.filterMap id
theorem zd6 (a b : List It) : zcn (a ++ b) = zcn a ++ zcn b := List.filterMap_append
theorem zg0 {n : Nd} (h : n.op = 1) (a b : Ent) : zaB n a b = [sgI 29] := by
 unfold zaB
 rw [if_pos h]
theorem zg1 {n : Nd} (h : n.op = 2) (a b : Ent) : zaB n a b = [sgI 30] := by
 unfold zaB
 rw [if_neg (by omega), if_pos h]
theorem zg2 {n : Nd} (h : n.op = 3) (a b : Ent) : zaB n a b = [sgI 18] := by
 unfold zaB
 rw [if_neg (by omega), if_neg (by omega), if_pos h]
theorem zg3 {n : Nd} (h : n.op = 4) (a b : Ent) : zaB n a b = [txI 2 n.tx] := by
 unfold zaB
 rw [if_neg (by omega), if_neg (by omega), if_neg (by omega), if_pos h]
theorem zg4 {n : Nd} (h : n.op = 5) (a b : Ent) : zaB n a b = [some ⟨3, 0, 0, 0, ⟨#[]⟩, n.s0, n.s1, n.s2, n.s3⟩] := by
 unfold zaB
 rw [if_neg (by omega), if_neg (by omega), if_neg (by omega), if_neg (by omega), if_pos h]
theorem zg5 {n : Nd} (h : n.op = 6) (a b : Ent) : zaB n a b = [txI 1 n.tx] := by
 unfold zaB
 rw [if_neg (by omega), if_neg (by omega), if_neg (by omega), if_neg (by omega), if_neg (by omega), if_pos h]
theorem zg6 {n : Nd} (h : n.op = 7) (a b : Ent) : zaB n a b = zaq 1 a ++ ([none] ++ zaq 2 b) := by
 unfold zaB
 rw [if_neg (by omega), if_neg (by omega), if_neg (by omega), if_neg (by omega), if_neg (by omega), if_neg (by omega), if_pos h]
theorem zg7 {n : Nd} (h : n.op = 8) (a b : Ent) : zaB n a b = zaq 0 a ++ ([none, sgI 7, none] ++ zaq 1 b) := by
 unfold zaB
 rw [if_neg (by omega), if_neg (by omega), if_neg (by omega), if_neg (by omega), if_neg (by omega), if_neg (by omega), if_neg (by omega), if_pos h]
theorem zg8 {n : Nd} (h : n.op = 9) (a b : Ent) : zaB n a b = zaq 3 a ++ [sgI 11] := by
 unfold zaB
 rw [if_neg (by omega), if_neg (by omega), if_neg (by omega), if_neg (by omega), if_neg (by omega), if_neg (by omega), if_neg (by omega), if_neg (by omega), if_pos h]
theorem zez {n : Nd} (h : n.op = 10) (a b : Ent) : zaB n a b = zaq 3 a ++ [sgI 12] := by
 unfold zaB
 rw [if_neg (by omega), if_neg (by omega), if_neg (by omega), if_neg (by omega), if_neg (by omega), if_neg (by omega), if_neg (by omega), if_neg (by omega), if_neg (by omega), if_pos h]
theorem zeA {n : Nd} (h : n.op = 11) (a b : Ent) : zaB n a b = zaq 3 a ++ [sgI 10] := by
 unfold zaB
 rw [if_neg (by omega), if_neg (by omega), if_neg (by omega), if_neg (by omega), if_neg (by omega), if_neg (by omega), if_neg (by omega), if_neg (by omega), if_neg (by omega), if_neg (by omega), if_pos h]
theorem zeB {n : Nd} (h : n.op = 12) (a b : Ent) : zaB n a b = [sgI 8] ++ zaq 2 a := by
 unfold zaB
 rw [if_neg (by omega), if_neg (by omega), if_neg (by omega), if_neg (by omega), if_neg (by omega), if_neg (by omega), if_neg (by omega), if_neg (by omega), if_neg (by omega), if_neg (by omega), if_neg (by omega), if_pos h]
theorem zeC {n : Nd} (h : n.op = 13) (a b : Ent) : zaB n a b = [sgI 9] ++ zaq 2 a := by
 unfold zaB
 rw [if_neg (by omega), if_neg (by omega), if_neg (by omega), if_neg (by omega), if_neg (by omega), if_neg (by omega), if_neg (by omega), if_neg (by omega), if_neg (by omega), if_neg (by omega), if_neg (by omega), if_neg (by omega), if_pos h]
theorem zeD {n : Nd} (h : n.op = 14) (a b : Ent) : zaB n a b = zaq 3 a ++ [nuI 13 n.nn] := by
 unfold zaB
 rw [if_neg (by omega), if_neg (by omega), if_neg (by omega), if_neg (by omega), if_neg (by omega), if_neg (by omega), if_neg (by omega), if_neg (by omega), if_neg (by omega), if_neg (by omega), if_neg (by omega), if_neg (by omega), if_neg (by omega), if_pos h]
theorem zeE {n : Nd} (h : n.op = 15) (a b : Ent) : zaB n a b = zaq 3 a ++ [nuI 14 n.nn] := by
 unfold zaB
 rw [if_neg (by omega), if_neg (by omega), if_neg (by omega), if_neg (by omega), if_neg (by omega), if_neg (by omega), if_neg (by omega), if_neg (by omega), if_neg (by omega), if_neg (by omega), if_neg (by omega), if_neg (by omega), if_neg (by omega), if_neg (by omega), if_pos h]
theorem zeF {n : Nd} (h : n.op = 16) (a b : Ent) : zaB n a b = zaq 3 a ++ [nuI 15 n.nn] := by
 unfold zaB
 rw [if_neg (by omega), if_neg (by omega), if_neg (by omega), if_neg (by omega), if_neg (by omega), if_neg (by omega), if_neg (by omega), if_neg (by omega), if_neg (by omega), if_neg (by omega), if_neg (by omega), if_neg (by omega), if_neg (by omega), if_neg (by omega), if_neg (by omega), if_pos h]
theorem zeG {n : Nd} (h : n.op = 17) (a b : Ent) : zaB n a b = [sgI 19, sgI 20] := by
 unfold zaB
 rw [if_neg (by omega), if_neg (by omega), if_neg (by omega), if_neg (by omega), if_neg (by omega), if_neg (by omega), if_neg (by omega), if_neg (by omega), if_neg (by omega), if_neg (by omega), if_neg (by omega), if_neg (by omega), if_neg (by omega), if_neg (by omega), if_neg (by omega), if_neg (by omega), if_pos h]
theorem zeH {n : Nd} (h : n.op = 18) (a b : Ent) : zaB n a b = [sgI 19] ++ (zaq 0 a ++ [sgI 20]) := by
 unfold zaB
 rw [if_neg (by omega), if_neg (by omega), if_neg (by omega), if_neg (by omega), if_neg (by omega), if_neg (by omega), if_neg (by omega), if_neg (by omega), if_neg (by omega), if_neg (by omega), if_neg (by omega), if_neg (by omega), if_neg (by omega), if_neg (by omega), if_neg (by omega), if_neg (by omega), if_neg (by omega), if_pos h]
theorem zeI {n : Nd} (h : n.op = 19) (a b : Ent) : zaB n a b = [txI 21 n.tx, none] ++ (zaq 0 a ++ [none, sgI 22]) := by
 unfold zaB
 rw [if_neg (by omega), if_neg (by omega), if_neg (by omega), if_neg (by omega), if_neg (by omega), if_neg (by omega), if_neg (by omega), if_neg (by omega), if_neg (by omega), if_neg (by omega), if_neg (by omega), if_neg (by omega), if_neg (by omega), if_neg (by omega), if_neg (by omega), if_neg (by omega), if_neg (by omega), if_neg (by omega), if_pos h]
theorem zeJ {n : Nd} (h : n.op = 20) (a b : Ent) : zaB n a b = [sgI 23, none] ++ (zaq 0 a ++ [none, sgI 24]) := by
 unfold zaB
 rw [if_neg (by omega), if_neg (by omega), if_neg (by omega), if_neg (by omega), if_neg (by omega), if_neg (by omega), if_neg (by omega), if_neg (by omega), if_neg (by omega), if_neg (by omega), if_neg (by omega), if_neg (by omega), if_neg (by omega), if_neg (by omega), if_neg (by omega), if_neg (by omega), if_neg (by omega), if_neg (by omega), if_neg (by omega), if_pos h]
theorem zeK {n : Nd} (h : n.op = 21) (a b : Ent) : zaB n a b = [sgI 25, none] ++ (zaq 0 a ++ [none, sgI 26]) := by
 unfold zaB
 rw [if_neg (by omega), if_neg (by omega), if_neg (by omega), if_neg (by omega), if_neg (by omega), if_neg (by omega), if_neg (by omega), if_neg (by omega), if_neg (by omega), if_neg (by omega), if_neg (by omega), if_neg (by omega), if_neg (by omega), if_neg (by omega), if_neg (by omega), if_neg (by omega), if_neg (by omega), if_neg (by omega), if_neg (by omega), if_neg (by omega), if_pos h]
theorem zeL {n : Nd} (h : n.op = 22) (a b : Ent) : zaB n a b = zaq 3 a ++ [none, sgI 27, none, txI 2 n.tx] := by
 unfold zaB
 rw [if_neg (by omega), if_neg (by omega), if_neg (by omega), if_neg (by omega), if_neg (by omega), if_neg (by omega), if_neg (by omega), if_neg (by omega), if_neg (by omega), if_neg (by omega), if_neg (by omega), if_neg (by omega), if_neg (by omega), if_neg (by omega), if_neg (by omega), if_neg (by omega), if_neg (by omega), if_neg (by omega), if_neg (by omega), if_neg (by omega), if_neg (by omega), if_pos h]
theorem zeM {n : Nd} (h : n.op = 23) (a b : Ent) : zaB n a b = zaq 3 a ++ [none, sgI 27, none, nuI 4 n.nn] := by
 unfold zaB
 rw [if_neg (by omega), if_neg (by omega), if_neg (by omega), if_neg (by omega), if_neg (by omega), if_neg (by omega), if_neg (by omega), if_neg (by omega), if_neg (by omega), if_neg (by omega), if_neg (by omega), if_neg (by omega), if_neg (by omega), if_neg (by omega), if_neg (by omega), if_neg (by omega), if_neg (by omega), if_neg (by omega), if_neg (by omega), if_neg (by omega), if_neg (by omega), if_neg (by omega)]
theorem ze8 {n : Nd} (h : T.alE n = 0) : 0 <= T.ar n.op /\ T.txF n.op n.tx = true /\ T.nuF n.op n.nn = true /\ T.seF n.op n.s0 n.s1 n.s2 n.s3 = true := by
 unfold T.alE at h
 by_cases h1 : T.ar n.op < 0
 ·rw [if_pos h1] at h; cases h
 ·rw [if_neg h1] at h
  by_cases h2 : T.fdF n = true
  ·unfold T.fdF at h2
   simp only [Bool.and_eq_true] at h2
   exact ⟨by omega, h2.1.1, h2.1.2, h2.2⟩
  ·rw [if_neg h2] at h; cases h
theorem op_rng {n : Nd} (h : T.alE n = 0) : 1 <= n.op /\ n.op <= 23 := by
 have := (ze8 h).1
 unfold T.ar at this
 split at this
 ·omega
 ·omega
theorem al_se {n : Nd} (h : T.alE n = 0) (ho : n.op ≠ 5) : n.s0 = 0 /\ n.s1 = 0 /\ n.s2 = 0 /\ n.s3 = 0 := by
 have := (ze8 h).2.2.2
 unfold T.seF at this
 rw [if_neg ho] at this
 exact of_decide_eq_true this
theorem al_txn {n : Nd} (h : T.alE n = 0) (h4 : n.op ≠ 4) (h6 : n.op ≠ 6) (h19 : n.op ≠ 19) (h22 : n.op ≠ 22) : n.tx = ⟨#[]⟩ := by
 have := (ze8 h).2.1
 unfold T.txF at this
 rw [if_neg h4, if_neg h6, if_neg h19, if_neg h22] at this
 have := of_decide_eq_true this
 exact ziy (by omega)
theorem zow {n : Nd} (h : T.alE n = 0) (ho : n.op = 14 ∨ n.op = 15 ∨ n.op = 16 ∨ n.op = 23) : n = ⟨n.op, n.nn, ⟨#[]⟩, 0, 0, 0, 0⟩ /\ 0 <= n.nn /\ n.nn <= 50 := by
 obtain ⟨a, b, c, d⟩ := al_se h (by omega)
 have f := al_txn h (by omega) (by omega) (by omega) (by omega)
 have g := (ze8 h).2.2.1
 unfold T.nuF at g
 rw [if_pos ho] at g
 have g := of_decide_eq_true g
 refine ⟨?_, g⟩
 clear g
 obtain ⟨op, nn, tx, s0, s1, s2, s3⟩ := n
 dsimp only at a b c d f ⊢
 subst a b c d f
 rfl
end Go.Proofs.YtnpifgcgjgddoaaGreatDoor.N
namespace Go.Proofs.YtnpifgcgjgddoaaGreatDoor
open Go.RowKit
theorem znp {s : ByteArray} {i j : Nat} (h : zb5 s i = zb5 s j) : ∀ l, Chn s j l -> Chn s i l := by
 intro l hl
 cases l with
 | nil => exact h.trans hl
 | cons t l =>
  obtain ⟨h1, h2, e, e1, e2, e3, h3⟩ := hl
  exact ⟨by rw [h]; exact h1, by rw [h]; exact h2, e, e1, by rw [h]; exact e2, e3, h3⟩
def sgT (k : Int) (i : Nat) : Tk := ⟨k, 0, i, (i + 1 : Nat), ⟨#[]⟩, 0, 0, 0, 0⟩
theorem znq {s : ByteArray} {i : Nat} {c : Int} (h : chr s i = c) (hc : c = 32 ∨ c = 10) : zb5 s i = zb5 s (i + 1) := by
 have hlt : i < s.size := zaD (by omega)
 rw [zb9, if_pos hlt, if_neg (by omega), if_pos (by omega)]
theorem chn_bl {s : ByteArray} {i : Nat} {c : Int} {M : List Tk} (h : chr s i = c) (hc : c = 32 ∨ c = 10) (hM : Chn s (i + 1) M) : Chn s i M := znp (znq h hc) _ hM
end Go.Proofs.YtnpifgcgjgddoaaGreatDoor
namespace Go.Proofs.YtnpifgcgjgddoaaGreatDoor.N
open Go.RowKit
def who (E : PE) (ns : List Nd) : Prop := exN E 0 = .inl (E.l.length, ns)
end Go.Proofs.YtnpifgcgjgddoaaGreatDoor.N
