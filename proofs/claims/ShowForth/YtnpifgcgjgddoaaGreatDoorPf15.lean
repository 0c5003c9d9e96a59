/- DERIVED. Plain mathematics and walks, laid together (15). -/
import Derived.Test.YtnpifgcgjgddoaaGreatDoorCards
import Derived.Test.YtnpifgcgjgddoaaGreatDoorTie
import Derived.WalkKit
import Derived.ProofKit
import Derived.OpenShut
import Derived.ShutString
import Derived.ChangeOld
import Derived.ChangeSame
import Derived.SizedLaws
import Derived.FnData
import Derived.Deep.DeepHandedRow
import Derived.Lib.LaidTab
import Derived.Lib.Builder
import Derived.Test.YtnpifgcgjgddoaaGreatDoorPf14
namespace Go.Proofs.YtnpifgcgjgddoaaGreatDoor
open Go.RowKit
theorem emp_eq {s : ByteArray} (h : (s.toList == []) = true) : s = ⟨#[]⟩ := emp_of (by have := emp_size h; omega)
theorem seF_zero {k s0 s1 s2 s3 : Int} {s : ByteArray} (n3 : ¬ k = 3) (n28 : ¬ k = 28) (n5 : ¬ k = 5) (h : seF k s s0 s1 s2 s3 = true) : s0 = 0 ∧ s1 = 0 ∧ s2 = 0 ∧ s3 = 0 := by
  unfold seF at h
  rw [if_neg n3, if_neg n28, if_neg n5] at h
  simpa using h
theorem txF_zero {k : Int} {s : ByteArray} (n1 : ¬ k = 1) (n21 : ¬ k = 21) (n2 : ¬ k = 2) (n28 : ¬ k = 28) (h : txF k s = true) : s = ⟨#[]⟩ := by
  unfold txF at h
  rw [if_neg n1, if_neg n21, if_neg n2, if_neg n28] at h
  exact emp_eq h
theorem aln_of {t : Tk} (hr : riF t = true) (hb : TkB t) : Aln (tkX t) t.kd t.nn t.tx t.s0 t.s1 t.s2 t.s3 := by
  obtain ⟨h1, h2, h3, h4, h5, h6⟩ := ri_nat hr
  have hs := txF_len h3
  have u0 := hb.u0
  have u1 := hb.u1
  have u2 := hb.u2
  have u3 := hb.u3
  have u4 := hb.u4
  obtain ⟨kd, nn, fr, en, tx, s0, s1, s2, s3⟩ := t
  unfold tkX
  dsimp only at *
  clear hr hb
  by_cases n1 : kd = 1
  · subst n1
    obtain ⟨rfl, rfl, rfl, rfl⟩ := seF_zero (by omega) (by omega) (by omega) h6
    obtain rfl : nn = 0 := by rw [if_neg (by omega)] at h5; have : gtK 1 = 0 := rfl; omega
    rw [if_pos rfl]
    exact al_name h3
  rw [if_neg n1]
  by_cases n21 : kd = 21
  · subst n21
    obtain ⟨rfl, rfl, rfl, rfl⟩ := seF_zero (by omega) (by omega) (by omega) h6
    obtain rfl : nn = 0 := by rw [if_neg (by omega)] at h5; have : gtK 21 = 0 := rfl; omega
    rw [if_pos rfl]
    unfold txF at h3
    rw [if_neg (by omega), if_pos rfl] at h3
    rcases Bool.or_eq_true_iff.1 h3 with h | h
    · obtain rfl := emp_eq h
      exact al_grp0
    · have := (isNm_len h).1
      unfold gnm
      rw [if_neg (by omega)]
      exact al_grp h
  rw [if_neg n21]
  by_cases n2 : kd = 2
  · subst n2
    obtain ⟨rfl, rfl, rfl, rfl⟩ := seF_zero (by omega) (by omega) (by omega) h6
    obtain rfl : nn = 0 := by rw [if_neg (by omega)] at h5; have : gtK 2 = 0 := rfl; omega
    rw [if_pos rfl]
    exact al_lit tx hs
  rw [if_neg n2]
  by_cases n3 : kd = 3
  · subst n3
    obtain rfl := txF_zero (by omega) (by omega) (by omega) (by omega) h3
    obtain rfl : nn = 0 := by rw [if_neg (by omega)] at h5; have : gtK 3 = 0 := rfl; omega
    rw [if_pos rfl]
    obtain ⟨x0, x1, x2, x3⟩ := mkS_wd s0 s1 s2 s3 ⟨u0, u1⟩ u2 u3 u4
    have h := al_cls (mkS s0 s1 s2 s3)
    rw [x0, x1, x2, x3] at h
    exact h
  rw [if_neg n3]
  by_cases n28 : kd = 28
  · subst n28
    obtain rfl : nn = 0 := by rw [if_neg (by omega)] at h5; have : gtK 28 = 0 := rfl; omega
    rw [if_pos rfl]
    have hsz : tx.size = 1 := by
      unfold txF at h3
      rw [if_neg (by omega), if_neg (by omega), if_neg (by omega), if_pos rfl] at h3
      have := of_decide_eq_true h3
      omega
    obtain ⟨c, rfl⟩ : ∃ c, tx = tx8 [c] := by
      obtain ⟨⟨l⟩⟩ := tx
      match l, hsz with
      | [c], _ => exact ⟨c, rfl⟩
    have hc : chr (tx8 [c]) 0 = (c.toNat : Int) := by rw [chr_tx]; rfl
    unfold seF at h6
    rw [if_neg (by omega), if_pos rfl, hc, Int.toNat_natCast] at h6
    simp only [Bool.and_eq_true, beq_iff_eq] at h6
    obtain ⟨q, rfl, rfl, rfl, rfl⟩ := h6
    exact al_pct c q
  rw [if_neg n28]
  obtain rfl := txF_zero n1 n21 n2 n28 h3
  by_cases n5 : kd = 5
  · subst n5
    have h7 := set5_le rfl h6
    rw [if_pos rfl] at h5 ⊢
    unfold seF at h6
    rw [if_neg (by omega), if_neg (by omega), if_pos rfl] at h6
    simp only [Bool.and_eq_true, beq_iff_eq] at h6
    obtain ⟨_, _, rfl, rfl, rfl⟩ := h6
    have h := al_pts nn.toNat s0.toNat (by omega) (by omega)
    rw [show ((nn.toNat : Nat) : Int) = nn from by omega, show ((s0.toNat : Nat) : Int) = s0 from by omega] at h
    exact h
  rw [if_neg n5] at h5 ⊢
  obtain ⟨rfl, rfl, rfl, rfl⟩ := seF_zero n3 n28 n5 h6
  by_cases n4 : kd = 4
  · subst n4
    rw [if_pos rfl]
    have hg : gtK 4 = 999999 := rfl
    have h := al_num nn.toNat (by omega)
    rw [show ((nn.toNat : Nat) : Int) = nn from by omega] at h
    exact h
  rw [if_neg n4]
  by_cases n13 : kd = 13
  · subst n13
    rw [if_pos rfl]
    have hg : gtK 13 = 50 := rfl
    have h := al_cnt [94] 13 nn.toNat (by omega) (.inl ⟨rfl, rfl⟩)
    rw [show ((nn.toNat : Nat) : Int) = nn from by omega] at h
    rw [show (⟨#[94]⟩ ++ txO (dgT 10 nn.toNat) : ByteArray) = tx8 ([94] ++ dgT 10 nn.toNat) from by unfold txO; apply ByteArray.ext; simp]
    exact h
  rw [if_neg n13]
  by_cases n14 : kd = 14
  · subst n14
    rw [if_pos rfl]
    have hg : gtK 14 = 50 := rfl
    have h := al_cnt [94, 43] 14 nn.toNat (by omega) (.inr (.inl ⟨rfl, rfl⟩))
    rw [show ((nn.toNat : Nat) : Int) = nn from by omega] at h
    rw [show (⟨#[94, 43]⟩ ++ txO (dgT 10 nn.toNat) : ByteArray) = tx8 ([94, 43] ++ dgT 10 nn.toNat) from by unfold txO; apply ByteArray.ext; simp]
    exact h
  rw [if_neg n14]
  by_cases n15 : kd = 15
  · subst n15
    rw [if_pos rfl]
    have hg : gtK 15 = 50 := rfl
    have h := al_cnt [94, 45] 15 nn.toNat (by omega) (.inr (.inr ⟨rfl, rfl⟩))
    rw [show ((nn.toNat : Nat) : Int) = nn from by omega] at h
    rw [show (⟨#[94, 45]⟩ ++ txO (dgT 10 nn.toNat) : ByteArray) = tx8 ([94, 45] ++ dgT 10 nn.toNat) from by unfold txO; apply ByteArray.ext; simp]
    exact h
  rw [if_neg n15]
  have hg : gtK kd = 0 := by unfold gtK; rw [if_neg n4, if_neg (by omega)]
  obtain rfl : nn = 0 := by omega
  have h := al_sig kd.toNat (by omega) ⟨by omega, by omega, by omega, by omega, by omega, by omega, by omega, by omega, by omega, by omega, by omega⟩
  rw [show ((kd.toNat : Nat) : Int) = kd from by omega] at h
  by_cases n29 : kd = 29
  · subst n29; rw [if_pos rfl]; exact h
  rw [if_neg n29]
  by_cases n30 : kd = 30
  · subst n30; rw [if_pos rfl]; exact h
  rw [if_neg n30]
  unfold sgX at h
  rw [if_neg (by omega), if_neg (by omega)] at h
  exact h
/-- Where a right token's text stands, with a blank or nothing behind it, the token is read. -/
theorem tok_there {t : Tk} (hr : riF t = true) (hb : TkB t) {s : ByteArray} {b : Nat} (ha : Ag (tkX t) 0 s b (tkX t).size) (he : stopB (chr s (b + (tkX t).size)) = true) : 0 < (tkX t).size ∧ gapN s b = b ∧ b < s.size ∧ b + (tkX t).size ≤ s.size ∧ oneP s b = .inl (mvT t b (tkX t).size) := by
  have h := aln_of hr hb
  have h1 := start_move h.p h.b.b h.b.c h.o (m := (tkX t).size) (by show ((tkX t).size : Int) = ((0 + (tkX t).size : Nat) : Int); omega) ha
  have h2 := tok_move h.p h.o (m := (tkX t).size) (by show ((tkX t).size : Int) = ((0 + (tkX t).size : Nat) : Int); omega) ha (.inl he)
  exact ⟨h.p, h1.1, h1.2, ha.in h.p (by omega), h2⟩
theorem gap_end (s : ByteArray) : gapN s s.size = s.size := by rw [gapN_unf, if_neg (by omega)]
end Go.Proofs.YtnpifgcgjgddoaaGreatDoor

namespace Go.Proofs.YtnpifgcgjgddoaaGreatDoor
open Go.RowKit
/-- Right, and of the sizes that a machine holds. -/
structure Rgt (t : Tk) : Prop where
  r : riF t = true
  b : TkB t
theorem Rgt.plain {k n a e : Int} {tx : ByteArray} (h : riF ⟨k, n, a, e, tx, 0, 0, 0, 0⟩ = true) (hn : n ≤ 1114111) : Rgt ⟨k, n, a, e, tx, 0, 0, 0, 0⟩ := ⟨h, ⟨by show n < _; omega, by show (0 : Int) ≤ 0; omega, by show (0 : Int) < _; omega, by show (0 : Int) ≤ 0 ∧ (0 : Int) < _; omega, by show (0 : Int) ≤ 0 ∧ (0 : Int) < _; omega, by show (0 : Int) ≤ 0 ∧ (0 : Int) < _; omega⟩⟩
theorem wd_rng (x : BitVec 256) (i : Nat) : 0 ≤ wd x i ∧ wd x i < 18446744073709551616 := by
  unfold wd
  have := (x.extractLsb' (64 * i) 64).isLt
  omega
theorem nm_ext {s : ByteArray} {b : Nat} (hh : hdB (chr s b) = true) (hle : ¬ 32 < spN nmB s b - b) : isNm (s.extract b (spN nmB s b)) = true := by
  have hnm : nmB (chr s b) = true := by unfold nmB; rw [hh]; rfl
  obtain ⟨h1, h2⟩ := spN_next (P := nmB) (by decide) hnm
  have h3 := spN_ge nmB s (by decide) (b + 1)
  have h4 := spN_le nmB s (by decide) b (by omega)
  obtain ⟨_, _, h6, h7⟩ := spN_spec nmB s (by decide) _ b rfl
  generalize spN nmB s b = e at *
  have hsz : (s.extract b e).size = e - b := by rw [ByteArray.size_extract]; omega
  have hc : ∀ k, k < e - b → chr (s.extract b e) k = chr s (b + k) := fun k hk => chr_ext (by omega) h4
  unfold isNm
  rw [hsz, decide_eq_true (by omega), decide_eq_true (by omega), hc 0 (by omega), Nat.add_zero, hh]
  have hr : spN nmB (s.extract b e) 0 = e - b := by
    refine spN_eq (by decide) (by omega) (fun k _ hk => ?_) ?_
    · rw [hc k hk]; exact h7 (b + k) (by omega) (by omega)
    · rw [chr_out (by rw [hsz]; omega)]; decide
  rw [hr]
  simp
theorem wthR_ge0 (s : ByteArray) (i : Nat) (base : Int) (hb : 0 ≤ base) : ∀ k, (∀ j, j < k → 0 ≤ hexV (chr s (i + j))) → 0 ≤ wthR s i base k := by
  intro k
  induction k with
  | zero => intro _; exact Int.le_refl _
  | succ k ih =>
    intro h
    have h1 := ih (fun j hj => h j (by omega))
    have h2 := h k (by omega)
    have h3 := Int.mul_nonneg h1 hb
    show 0 ≤ wthR s i base k * base + hexV (chr s (i + k))
    omega
theorem dg_hex {c : Int} (h : dgB c = true) : 0 ≤ hexV c := by
  unfold dgB at h
  simp only [Bool.and_eq_true, decide_eq_true_eq] at h
  unfold hexV
  rw [if_pos h]
  omega
theorem hx_hex {c : Int} (h : hxB c = true) : 0 ≤ hexV c := by
  unfold hxB at h
  rcases Bool.or_eq_true_iff.1 h with h | h
  · exact dg_hex h
  · simp only [Bool.and_eq_true, decide_eq_true_eq] at h
    unfold hexV
    rw [if_neg (by omega), if_pos h]
    omega
theorem numR_bd {s : ByteArray} {d : Nat} {m n : Int} (h : numR s d m = .inl n) : 0 ≤ n ∧ n ≤ m := by
  unfold numR at h
  split at h
  · cases h
  split at h
  · cases h
  · next q1 q2 =>
    cases h
    obtain ⟨_, _, _, h7⟩ := spN_spec dgB s (by decide) _ d rfl
    refine ⟨wthR_ge0 _ _ _ (by omega) _ (fun j hj => dg_hex (h7 (d + j) (by omega) (by omega))), ?_⟩
    omega
theorem nmR_rgt {s : ByteArray} {b d : Nat} {k : Int} {t : Tk} (hk : k = 4 ∨ k = 13 ∨ k = 14 ∨ k = 15) (h : nmR s b d k = .inl t) : Rgt t := by
  unfold nmR at h
  cases hn : numR s d (gtK k) with
  | inr e => rw [hn] at h; cases h
  | inl n =>
    rw [hn] at h
    cases h
    obtain ⟨h1, h2⟩ := numR_bd hn
    have h3 := gtK_le k
    refine Rgt.plain ?_ (by omega)
    have em : ((⟨#[]⟩ : ByteArray).toList == []) = true := by rw [ByteArray.toList_eq]; rfl
    unfold riF txF nbF seF
    rcases hk with rfl | rfl | rfl | rfl <;> simp [] <;> omega
theorem litGo_rgt (s : ByteArray) (q : Int) (b : Nat) : ∀ (f : Nat) (out : List Int) (i : Nat) (t : Tk), litGo s q b f out i = .inl t → Rgt t := by
  intro f
  induction f with
  | zero => intro out i t h; rw [litGo] at h; cases h
  | succ f ih =>
    intro out i t h
    rw [litGo] at h
    split at h
    · cases h
    split at h
    · split at h
      · cases h
      · next q2 =>
        cases h
        refine Rgt.plain ?_ (by omega)
        unfold riF txF nbF seF gtK
        have := asText_size out
        simp
        omega
    split at h
    · cases h
    split at h
    · exact ih _ _ _ h
    · split at h
      · cases h
      · exact ih _ _ _ h
theorem ri_name {a e : Int} {s : ByteArray} (h : isNm s = true) : riF ⟨1, 0, a, e, s, 0, 0, 0, 0⟩ = true := by
  unfold riF txF nbF seF gtK
  simp [h]
theorem ri_grp {a e : Int} {s : ByteArray} (h : isNm s = true) : riF ⟨21, 0, a, e, s, 0, 0, 0, 0⟩ = true := by
  unfold riF txF nbF seF gtK
  simp [h]
theorem ri_grp0 {a e : Int} : riF ⟨21, 0, a, e, ⟨#[]⟩, 0, 0, 0, 0⟩ = true := by
  have em : ((⟨#[]⟩ : ByteArray).toList == []) = true := by rw [ByteArray.toList_eq]; rfl
  unfold riF txF nbF seF gtK
  simp []
theorem grpP_rgt {s : ByteArray} {b d : Nat} {t : Tk} (h : grpP s b d = .inl t) : Rgt t := by
  unfold grpP at h
  split at h
  · next hh =>
    split at h
    · cases h
    · next hl =>
      split at h
      · cases h; exact Rgt.plain (ri_grp (nm_ext hh hl)) (by omega)
      · cases h; exact Rgt.plain ri_grp0 (by omega)
  · cases h; exact Rgt.plain ri_grp0 (by omega)
def sgK (k : Int) : Bool := k == 0 || k == 13 || k == 14 || k == 15 || k == 21 || k == 29 || k == 30 || k == 27 || (decide (6 ≤ k) && decide (k ≤ 12)) || (decide (16 ≤ k) && decide (k ≤ 20)) || (decide (22 ≤ k) && decide (k ≤ 26))
theorem sgC_in (c0 c1 : Int) : sgK (sgC c0 c1).1 = true := by
  have h : ∀ l : List (Int × List UInt8), (∀ p ∈ l, sgK p.1 = true) → sgK (sgGC c0 c1 l).1 = true := by
    intro l
    induction l with
    | nil => intro _; rfl
    | cons p l ih =>
      intro h
      rw [sgGC]
      split
      · exact h p (List.mem_cons_self ..)
      · exact ih (fun q hq => h q (List.mem_cons_of_mem _ hq))
  rw [← sgGC_C]
  exact h sgTab (by decide)
theorem ri_sig {k a e : Int} (h : sgK k = true) (h0 : ¬ k = 0) (h1 : ¬ (k = 13 ∨ k = 14 ∨ k = 15)) (h2 : ¬ k = 21) : riF ⟨k, 0, a, e, ⟨#[]⟩, 0, 0, 0, 0⟩ = true := by
  have em : ((⟨#[]⟩ : ByteArray).toList == []) = true := by rw [ByteArray.toList_eq]; rfl
  simp only [sgK, Bool.or_eq_true, Bool.and_eq_true, beq_iff_eq, decide_eq_true_eq] at h
  unfold riF txF nbF seF gtK
  dsimp only
  rw [if_neg (show ¬ k = 1 by omega), if_neg (show ¬ k = 21 by omega), if_neg (show ¬ k = 2 by omega), if_neg (show ¬ k = 28 by omega), if_neg (show ¬ k = 5 by omega), if_neg (show ¬ k = 4 by omega), if_neg h1, if_neg (show ¬ k = 3 by omega), if_neg (show ¬ k = 28 by omega), if_neg (show ¬ k = 5 by omega), em, decide_eq_true (show 1 ≤ k by omega), decide_eq_true (show k ≤ 30 by omega)]
  rfl
theorem sigP_rgt {s : ByteArray} {b : Nat} {t : Tk} (h : sigP s b = .inl t) : Rgt t := by
  have hi := sgC_in (chr s b) (chr s (b + 1))
  rw [← sgAt_C] at hi
  unfold sigP at h
  split at h
  · cases h
  split at h
  · next q => exact nmR_rgt (.inr q) h
  split at h
  · exact grpP_rgt h
  · next h0 h1 h2 => cases h; exact Rgt.plain (ri_sig hi h0 h1 h2) (by omega)
theorem ri_pts {n m a e : Int} (h0 : 0 ≤ n) (h1 : n ≤ m) (h2 : m ≤ 1114111) : Rgt ⟨5, n, a, e, ⟨#[]⟩, m, 0, 0, 0⟩ := by
  have em : ((⟨#[]⟩ : ByteArray).toList == []) = true := by rw [ByteArray.toList_eq]; rfl
  refine ⟨?_, ⟨by show n < _; omega, by show 0 ≤ m; omega, by show m < _; omega, by show (0 : Int) ≤ 0 ∧ (0 : Int) < _; omega, by show (0 : Int) ≤ 0 ∧ (0 : Int) < _; omega, by show (0 : Int) ≤ 0 ∧ (0 : Int) < _; omega⟩⟩
  unfold riF txF nbF seF
  simp []
  omega
theorem ptP_rng {s : ByteArray} {a : Nat} (h : (ptP s a).2.2 = true) : 0 ≤ (ptP s a).1 ∧ (ptP s a).1 ≤ 1114111 := by
  unfold ptP at h ⊢
  split at h
  · cases h
  · next q =>
    rw [if_neg q]
    obtain ⟨_, _, _, h7⟩ := spN_spec hxB s (by decide) _ a rfl
    exact ⟨wthR_ge0 _ _ _ (by omega) _ (fun j hj => hx_hex (h7 (a + j) (by omega) (by omega))), of_decide_eq_true h⟩
theorem ptsP_rgt {s : ByteArray} {b : Nat} {t : Tk} (h : ptsP s b = .inl t) : Rgt t := by
  unfold ptsP at h
  split at h
  · cases h
  next q1 =>
  have p1 := ptP_rng (s := s) (a := b + 3) (by simpa using q1)
  split at h
  · split at h
    · cases h
    next q2 =>
    have p2 := ptP_rng (s := s) (a := (ptP s (b + 3)).2.1 + 1) (by
      by_cases q : (ptP s ((ptP s (b + 3)).2.1 + 1)).2.2 = false
      · exact absurd (.inl q) q2
      · simpa using q)
    split at h
    · cases h; exact ri_pts p1.1 (by omega) p2.2
    · cases h
  · split at h
    · cases h; exact ri_pts p1.1 (Int.le_refl _) p1.2
    · cases h
theorem oneP_rgt {s : ByteArray} {b : Nat} {t : Tk} (_hb : b < s.size) (h : oneP s b = .inl t) : Rgt t := by
  unfold oneP at h
  split at h
  · next hh =>
    unfold nameR at h
    split at h
    · cases h
    · next hl => cases h; exact Rgt.plain (ri_name (nm_ext hh hl)) (by omega)
  split at h
  · exact nmR_rgt (.inl rfl) h
  split at h
  · exact litGo_rgt _ _ _ _ _ _ _ h
  split at h
  · cases hr : rdRead s b with
    | inr p =>
      rw [hr, clT] at h
      split at h <;> cases h
    | inl p =>
      rw [hr] at h
      cases h
      have em : ((⟨#[]⟩ : ByteArray).toList == []) = true := by rw [ByteArray.toList_eq]; rfl
      refine ⟨?_, ⟨by show (0 : Int) < _; omega, (wd_rng _ _).1, (wd_rng _ _).2, wd_rng _ _, wd_rng _ _, wd_rng _ _⟩⟩
      unfold riF txF nbF seF gtK
      simp []
  split at h
  · unfold pctP at h
    split at h
    · exact ptsP_rgt h
    split at h
    · exact sigP_rgt h
    split at h
    · next q =>
      cases h
      obtain ⟨q1, q2⟩ := q
      refine ⟨?_, ⟨by show (0 : Int) < _; omega, (wd_rng _ _).1, (wd_rng _ _).2, wd_rng _ _, wd_rng _ _, wd_rng _ _⟩⟩
      have hsz : (s.extract (b + 1) (b + 2)).size = 1 := by rw [ByteArray.size_extract]; omega
      have hc : chr (s.extract (b + 1) (b + 2)) 0 = chr s (b + 1) := by rw [chr_ext (by omega) (by omega)]
      unfold riF txF nbF seF gtK
      dsimp only
      rw [hc, hsz, q2]
      simp
    · cases h
  · exact sigP_rgt h
theorem chn_rgt (s : ByteArray) : ∀ (l : List Tk) (i : Nat), Chn s i l → ∀ t ∈ l, Rgt t := by
  intro l
  induction l with
  | nil => intro i _ t ht; cases ht
  | cons a l ih =>
    intro i h t ht
    obtain ⟨h1, h2, e, _, _, _, h3⟩ := h
    rcases List.mem_cons.1 ht with rfl | h4
    · exact oneP_rgt h1 h2
    · exact ih e h3 t h4
theorem lex_rgt {s : ByteArray} {l : List Tk} (h : lexR (oneP s) s = .inl l) : ∀ t ∈ l, Rgt t := chn_rgt s l 0 (lex_chn h).2
/-- Where it goes wrong. -/
theorem litGo_pos (s : ByteArray) (q : Int) (b : Nat) (hb : b ≤ s.size) : ∀ (f : Nat) (out : List Int) (i : Nat) (p : Nat × Int), litGo s q b f out i = .inr p → p.1 ≤ s.size := by
  intro f
  induction f with
  | zero => intro out i p h; rw [litGo] at h; cases h; exact hb
  | succ f ih =>
    intro out i p h
    rw [litGo] at h
    split at h
    · cases h; exact hb
    next hc =>
    have hi : i < s.size := chr_lt (by omega)
    split at h
    · split at h
      · cases h; exact hb
      · cases h
    split at h
    · cases h; exact Nat.le_of_lt hi
    split at h
    · exact ih _ _ _ h
    · split at h
      · cases h; exact Nat.le_of_lt hi
      · exact ih _ _ _ h
theorem nmR_pos {s : ByteArray} {b d : Nat} {k : Int} {p : Nat × Int} (hb : b ≤ s.size) (h : nmR s b d k = .inr p) : p.1 ≤ s.size := by
  unfold nmR at h
  cases hn : numR s d (gtK k) with
  | inr e => rw [hn] at h; cases h; exact hb
  | inl n => rw [hn] at h; cases h
theorem sigP_pos {s : ByteArray} {b : Nat} {p : Nat × Int} (hb : b ≤ s.size) (h : sigP s b = .inr p) : p.1 ≤ s.size := by
  have hl := sgAt_len s b hb
  unfold sigP at h
  split at h
  · cases h; exact hb
  split at h
  · exact nmR_pos hb h
  split at h
  · unfold grpP at h
    split at h
    · split at h
      · cases h; exact hl
      · split at h <;> cases h
    · cases h
  · cases h
theorem ptsP_pos {s : ByteArray} {b : Nat} {p : Nat × Int} (hb : b ≤ s.size) (h : ptsP s b = .inr p) : p.1 ≤ s.size := by
  unfold ptsP at h
  split at h
  · cases h; exact hb
  split at h
  · split at h
    · cases h; exact hb
    split at h
    · cases h
    · cases h; exact hb
  · split at h
    · cases h
    · cases h; exact hb
theorem oneP_pos {s : ByteArray} {b : Nat} {p : Nat × Int} (hb : b ≤ s.size) (h : oneP s b = .inr p) : p.1 ≤ s.size := by
  unfold oneP at h
  split at h
  · unfold nameR at h
    split at h
    · cases h; exact hb
    · cases h
  split at h
  · exact nmR_pos hb h
  split at h
  · exact litGo_pos _ _ _ hb _ _ _ _ h
  split at h
  · cases hr : rdRead s b with
    | inl q => rw [hr] at h; cases h
    | inr q =>
      rw [hr, clT] at h
      split at h
      · cases h; exact hb
      · cases h; exact rdRead_at hr
  split at h
  · unfold pctP at h
    split at h
    · exact ptsP_pos hb h
    split at h
    · exact sigP_pos hb h
    split at h
    · cases h
    · cases h; exact hb
  · exact sigP_pos hb h
theorem lexGo_pos (s : ByteArray) : ∀ (f : Nat) (out : List Tk) (i : Nat) (p : Nat × Int), lexGo (oneP s) s f out i = .inr p → p.1 ≤ s.size ∧ p.2 ≠ 0 := by
  intro f
  induction f with
  | zero => intro out i p h; rw [lexGo] at h; cases h
  | succ f ih =>
    intro out i p h
    rw [lexGo] at h
    split at h
    · next hi =>
      cases ho : oneP s i with
      | inr q => rw [ho] at h; cases h; exact ⟨oneP_pos (Nat.le_of_lt hi) ho, oneP_no s i _ ho⟩
      | inl t => rw [ho] at h; exact ih _ _ _ h
    · cases h
theorem lex_bad {s : ByteArray} {p : Nat × Int} (h : lexR (oneP s) s = .inr p) : p.1 ≤ s.size ∧ p.2 ≠ 0 := by
  unfold lexR at h
  split at h
  · cases h; exact ⟨Nat.zero_le _, by decide⟩
  · exact lexGo_pos s _ _ _ _ h
end Go.Proofs.YtnpifgcgjgddoaaGreatDoor

namespace Go.Proofs.YtnpifgcgjgddoaaGreatDoor
open Go.RowKit
theorem chn_len (s : ByteArray) : ∀ (l : List Tk) (i : Nat), i ≤ s.size → Chn s i l → i + l.length ≤ s.size := by
  intro l
  induction l with
  | nil => intro i hi _; simpa using hi
  | cons a l ih =>
    intro i hi h
    obtain ⟨h1, _, e, _, h3, h4, h5⟩ := h
    have h6 := ih e h4 h5
    have h7 := gapN_ge s i hi
    rw [List.length_cons]
    omega
theorem lex_len {s : ByteArray} {l : List Tk} (h : lexR (oneP s) s = .inl l) : l.length ≤ 65536 := by
  obtain ⟨h1, h2⟩ := lex_chn h
  have := chn_len s l 0 (by omega) h2
  omega
end Go.Proofs.YtnpifgcgjgddoaaGreatDoor

namespace Go.Proofs.YtnpifgcgjgddoaaGreatDoor.N
open Go.RowKit
/-- The laid tables. -/
structure GW (W : World) : Prop where
  s : SG W
  v : R.VB W
theorem GW.later {W W' : World} (h : GW W) (hb : Below W.heap.size W W') : GW W' := ⟨h.s.later hb, h.v.below hb h.v.lt⟩
theorem okE_of {s : ByteArray} {l : List Tk} (h : lexR (oneP s) s = .inl l) : OkE (mkE l) := by
  have hr := lex_rgt h
  refine ⟨lex_len h, rfl, rfl, fun t ht hk => ?_, fun t ht => ?_, fun t ht hk => ?_⟩
  · have h1 := (hr t ht).r
    have h2 := (hr t ht).b
    unfold riF nbF seF at h1
    rw [if_pos hk, if_neg (by omega), if_neg (by omega), if_pos hk] at h1
    simp only [Bool.and_eq_true, decide_eq_true_eq] at h1
    omega
  · have h1 := (hr t ht).r
    unfold riF txF at h1
    simp only [Bool.and_eq_true, decide_eq_true_eq] at h1
    have h2 := h1.1.1.2
    have emp : ∀ {x : ByteArray}, (x.toList == []) = true → x.size ≤ 65536 := fun {x} hx => by
      rw [beq_iff_eq, ByteArray.toList_eq] at hx
      have : x.data.toList.length = 0 := by rw [hx]; rfl
      have h3 : x.size = x.data.toList.length := by simp
      omega
    split at h2
    · have := isNm_len h2; omega
    · split at h2
      · rw [Bool.or_eq_true] at h2
        rcases h2 with h2 | h2
        · exact emp h2
        · have := isNm_len h2; omega
      · split at h2
        · have := of_decide_eq_true h2; omega
        · split at h2
          · have := beq_iff_eq.1 h2; omega
          · exact emp h2
  · have h1 := (hr t ht).r
    unfold riF nbF at h1
    rw [if_neg (by omega)] at h1
    simp only [Bool.and_eq_true, decide_eq_true_eq] at h1
    have h2 := h1.1.2
    rcases hk with hk | hk | hk <;> rw [hk] at h2 <;> (have h3 : t.nn ≤ 0 := h2.2; omega)
set_option maxRecDepth 100000 in
set_option maxHeartbeats 8000000 in
theorem newReader_no (s : ByteArray) (w : World) (hg : GW w) (q : Nat × Int) (hq : lexR (oneP s) s = .inr q) (hne : ¬ q.2 = 0) : Calls Tryz.prog 40 #[.string s] w fun e w' => e = pnc q.1 q.2 ∧ Below w.heap.size w w' := by
  have HL : Hid (∀ _ : Unit, Calls Tryz.prog 61 #[.string s] w fun e w' => e = .returned (.tuple #[.slice none 0 0, .agg #[.int .i64 q.1, .int .i64 q.2]]) ∧ Below w.heap.size w w') := fun _ => by
    have := lexP_any s w hg.s
    rw [hq] at this
    exact this
  have HU : Hid (∀ a c W, Calls Tryz.prog 60 #[.int .i64 a, .int .i64 c] W fun e W' => e = pnc a c ∧ W' = W) := fun a c W => giveUp_any a c W
  have t1 : (q.2 != 0) = true := by simpa using hne
  clear hg hq hne
  go_enter Tryz.func40, Tryz.ntmps40
  go_wp2_with fail
  refine (HL.out ()).mono ?_
  rintro e w1 ⟨rfl, hb⟩
  have HB := (show Hid (Below w.heap.size w w1) from hb)
  clear hb HL
  go_wp2_with fail
  refine (HU.out _ _ _).mono ?_
  rintro e w2 ⟨rfl, rfl⟩
  exact post_panic rfl ⟨rfl, HB.out.alloc HB.out.size _⟩
set_option maxRecDepth 100000 in
set_option maxHeartbeats 8000000 in
theorem newReader_ok (s : ByteArray) (w : World) (hg : GW w) (l : List Tk) (hl : lexR (oneP s) s = .inl l) : Calls Tryz.prog 40 #[.string s] w fun e w' => ∃ b tv, e = .returned (.pointer (some ⟨b, 0, none⟩)) ∧ RS (mkE l) s.size w w' b tv 0 0 (.slice none 0 0) [] := by
  have hlen := lex_len hl
  obtain ⟨i0, hinf, hz0, hz1, hz2⟩ := info_parts Tryz.info36
  have HL : Hid (∀ _ : Unit, Calls Tryz.prog 61 #[.string s] w fun e w' => (∃ v, e = .returned (.tuple #[v, .agg #[.int .i64 0, .int .i64 0]]) ∧ w'.ownsRow w.heap.size 115 9 v l.length (tkc l)) ∧ Below w.heap.size w w') := fun _ => by
    have := lexP_any s w hg.s
    rw [hl] at this
    exact this
  have HTk := (show Hid (toks (mkE l) s.size = l ++ [enT s.size]) from rfl)
  clear hg hl
  go_enter Tryz.func40, Tryz.ntmps40
  go_wp2_with fail
  refine (HL.out ()).mono ?_
  rintro e w1 ⟨⟨v, rfl, ho⟩, hb⟩
  have HB := (show Hid (Below w.heap.size w w1) from hb)
  clear hb HL
  have hO2 := ho.alloc (.cells #[.int .i64 0, .int .i64 0] 39)
  have hs1 := HB.out.size
  go_wp2_with (at_builtin; refine wpList_append_lies _ rfl _ _ 111 rfl w.heap.size 115 i0 (tkG tk0) 9 80 Tryz.underlying111 hinf hz0 hz1 hz2 rfl (by decide) _ _ _ rfl (hO2.alloc _) ⟨w1.heap.size + 1, 0, none⟩ 1 1 (tkV (enT s.size)) rfl rfl ?c1 (tk_one _) (by decide) ?c3 ?c4 ?c5 (w1.heap.size + 1 + 1) (by simp) ?_)
  case c1 =>
    have hh := heap_alloc_new (w1.alloc (.cells #[.int .i64 0, .int .i64 0] 39)) (.cells (tkC (enT s.size)) 115)
    rw [World.size_alloc] at hh
    exact World.news_of_block (cs := tkC (enT s.size)) (t := 115) (fr := (0, 0)) hh
  case c3 => unfold maxLen; omega
  case c4 => omega
  case c5 => rw [World.size_alloc, World.size_alloc]; omega
  intro g cap w4 hown hgrow hat hlt4
  have hbl : Below w.heap.size w w4 := ((HB.out.alloc hs1 _).alloc (by rw [World.size_alloc]; omega) _).grown hgrow (by rw [World.size_alloc, World.size_alloc]; omega) (fun k e => (ho.lt k e).1)
  have HR := (show Hid (∃ b tv, w4.heap.size = b ∧ Value.slice (some ⟨g, 0, none⟩) (l.length + 1) cap = tv ∧ RS (mkE l) s.size w (w4.alloc (.cells #[.slice (some ⟨g, 0, none⟩) (l.length + 1) cap, .int .i64 0, .int .i64 0, .slice none 0 0] 117)) b tv 0 0 (.slice none 0 0) []) from
    ⟨_, _, rfl, rfl, ⟨hbl.alloc hbl.size _, hbl.size, ⟨heap_alloc_new w4 _⟩, by
      have h1 := hown.alloc (.cells #[.slice (some ⟨g, 0, none⟩) (l.length + 1) cap, .int .i64 0, .int .i64 0, .slice none 0 0] 117)
      rw [HTk.out, List.length_append, List.length_singleton, tkc_append, tkc_one]
      exact h1, World.ownsRow_nil _ _ _ _, Nat.zero_le _, Nat.zero_le _⟩⟩)
  clear hown hgrow hat hlt4 hbl ho hO2
  go_wp2_with fail
  go_ret
  obtain ⟨b, tv, h1, h2, h3⟩ := HR.out
  exact ⟨b, tv, by rw [← h1]; rfl, h3⟩
set_option maxRecDepth 100000 in
set_option maxHeartbeats 8000000 in
theorem body_no {E : PE} (hE : OkE E) {z : Nat} {w0 : World} (hv : R.VB w0) {b : Nat} {tv : Value} {i : Nat} {W : World} {v : Value} {L : List Nd} (h : RS E z w0 W b tv i 0 v L) (q : Nat × Int) (hq : exN E i = .inr q) : Calls Tryz.prog 63 #[.pointer (some ⟨b, 0, none⟩)] W fun e W' => e = pnc (plA E z q.1) q.2 ∧ Below w0.heap.size w0 W' := by
  have hi := h.hi
  have H1 := (show Hid (RS E z w0 (W.setCell ⟨b, 3, none⟩ (.slice none 0 0)) b tv i 0 (.slice none 0 0) []) from h.s3 (World.ownsRow_nil _ _ _ _))
  have HX : Hid (∀ W, RS E z w0 W b tv i 0 (.slice none 0 0) [] → Calls Tryz.prog 89 #[.pointer (some ⟨b, 0, none⟩)] W fun e W' => e = pnc (plA E z q.1) q.2 ∧ Below w0.heap.size w0 W') := fun W h => by
    have := exp_all hE hv (z := z) (b := b) (tv := tv) (d := 0) hi W _ _ h (Nat.zero_le _)
    rw [gN_ex, hq] at this
    exact this
  obtain ⟨k0, k1, k2, k3⟩ := h.x.cl
  have f3 := h.x.fz 3
  clear h hE hv hq
  go_enter Tryz.func63, Tryz.ntmps63
  go_wp2_with fail
  refine (HX.out _ H1.out).mono ?_
  rintro e w1 ⟨rfl, hb⟩
  exact post_panic rfl ⟨rfl, hb⟩
set_option maxRecDepth 100000 in
set_option maxHeartbeats 8000000 in
theorem body_ok {E : PE} (hE : OkE E) {z : Nat} {w0 : World} (hv : R.VB w0) {b : Nat} {tv : Value} {i : Nat} {W : World} {v : Value} {L : List Nd} (h : RS E z w0 W b tv i 0 v L) (a : Nat) (ns : List Nd) (hq : exN E i = .inl (a, ns)) : Calls Tryz.prog 63 #[.pointer (some ⟨b, 0, none⟩)] W fun e W' => ∃ v', e = .returned v' ∧ RS E z w0 W' b tv a 0 v' ns ∧ Fr W W' b (.slice none 0 0) v' := by
  have hi := h.hi
  have H1 := (show Hid (RS E z w0 (W.setCell ⟨b, 3, none⟩ (.slice none 0 0)) b tv i 0 (.slice none 0 0) []) from h.s3 (World.ownsRow_nil _ _ _ _))
  have HF1 := (show Hid (Fr W (W.setCell ⟨b, 3, none⟩ (.slice none 0 0)) b (.slice none 0 0) (.slice none 0 0)) from Fr.set _ _ _ _ _)
  have HX : Hid (∀ W, RS E z w0 W b tv i 0 (.slice none 0 0) [] → Calls Tryz.prog 89 #[.pointer (some ⟨b, 0, none⟩)] W fun e W' => e = .returned (.tuple #[]) ∧ ∃ v', RS E z w0 W' b tv a 0 v' ns ∧ Fr W W' b (.slice none 0 0) v') := fun W h => by
    have := exp_all hE hv (z := z) (b := b) (tv := tv) (d := 0) hi W _ _ h (Nat.zero_le _)
    rw [gN_ex, hq] at this
    exact this
  obtain ⟨k0, k1, k2, k3⟩ := h.x.cl
  have f3 := h.x.fz 3
  clear h hE hv hq
  go_enter Tryz.func63, Tryz.ntmps63
  go_wp2_with fail
  refine (HX.out _ H1.out).mono ?_
  rintro e w1 ⟨rfl, v1, h1, hf1⟩
  have H2 := (show Hid _ from h1)
  have HF2 := (show Hid (Fr W w1 b (.slice none 0 0) v1) from HF1.out.trans hf1)
  clear h1 hf1 H1 HF1 HX k0 k1 k2 k3 f3
  obtain ⟨k0, k1, k2, k3⟩ := H2.out.x.cl
  go_wp2_with fail
  go_ret
  exact ⟨v1, rfl, H2.out, HF2.out⟩
end Go.Proofs.YtnpifgcgjgddoaaGreatDoor.N

namespace Go.Proofs.YtnpifgcgjgddoaaGreatDoor
open Go.ChangeShapes Go.WideShapes Go.ChangeAt Go.RowKit
theorem own : ownKnob Tryz.prog.godebug = none := by kernel_rfl
theorem gTab : Tryz.prog.globalNamed "harrow/token.signs" = some 1 := by kernel_rfl
theorem gTabType : (Tryz.prog.globals[1]?).map (·.type) = some 185 := by kernel_rfl
theorem gBlk : Tryz.prog.globalNamed "harrow/runes.blocks" = some 6 := by kernel_rfl
theorem gBlkType : (Tryz.prog.globals[6]?).map (·.type) = some 219 := by kernel_rfl
theorem Tryz.cells169 : Tryz.prog.cellsOf 169 = 2 := by kernel_rfl
theorem Tryz.cellsInt : Tryz.prog.cellsOf 3 = 1 := by kernel_rfl
theorem Tryz.cellsStr : Tryz.prog.cellsOf 9 = 1 := by kernel_rfl
theorem Tryz.cells219 : Tryz.prog.cellsOf 219 = 10 := by kernel_rfl
theorem Tryz.cells218 : Tryz.prog.cellsOf 218 = 2 := by kernel_rfl
theorem Tryz.cells21 : Tryz.prog.cellsOf 21 = 1 := by kernel_rfl
set_option maxRecDepth 100000 in
theorem run_trod {H : Type} {enc : TypeId × Value → H} {W : World} {base fuel : Nat} {sp : Nat → Bool} {held : Bool} {cs : List Value} {z : DataW H × List MemPlace}
    (h : DataW.trod enc Tryz.prog W base sp held fuel 169 cs = some z) : ∃ a s, cs = [.int .i64 a, .string s] ∧ z.1 = .agg [.lit (.int .i64 a), .lit (.string s.data.toList)] := by
  obtain ⟨y0, y1, n, rfl, hl, h0, h1⟩ := trod_struct2 Tryz.underlying169 h
  rw [Tryz.cells169] at hl
  match cs, hl with
  | [c0, c1], _ =>
    dsimp only at h0 h1
    rw [Tryz.cellsInt] at h0
    rw [Tryz.cellsStr] at h1
    obtain ⟨a, e0, e0', _⟩ := DataW.trod_int Tryz.underlying3 h0
    obtain ⟨b, e1, e1', _⟩ := DataW.trod_string Tryz.underlying9 h1
    have e0 : [c0] = [Value.int .i64 a] := e0
    have e1 : [c1] = [Value.string b] := e1
    cases e0
    cases e1
    exact ⟨a, b, rfl, by rw [e0', e1']⟩
theorem tab_laid {H : Type} : (Rows.laid_harrow_token_signs : DataW H) = .agg (sgTab.map fun p => .agg [.lit (.int .i64 p.1), .lit (.string p.2)]) := rfl
theorem tab_get : ∀ (i : Nat) v, tabL[i]? = some v → ∃ j p, sgTab[j]? = some p ∧ ((i = 2 * j ∧ v = .int .i64 p.1) ∨ (i = 2 * j + 1 ∧ v = .string ⟨p.2.toArray⟩)) := by
  have key : ∀ (l : List (Int × List UInt8)) (i : Nat) (v : Value), (l.flatMap fun p => [Value.int .i64 p.1, .string ⟨p.2.toArray⟩])[i]? = some v → ∃ j p, l[j]? = some p ∧ ((i = 2 * j ∧ v = .int .i64 p.1) ∨ (i = 2 * j + 1 ∧ v = .string ⟨p.2.toArray⟩)) := by
    intro l
    induction l with
    | nil => intro i v h; simp at h
    | cons p l ih =>
      intro i v h
      rw [List.flatMap_cons] at h
      match i, h with
      | 0, h => exact ⟨0, p, rfl, .inl ⟨rfl, by simpa using h.symm⟩⟩
      | 1, h => exact ⟨0, p, rfl, .inr ⟨rfl, by simpa using h.symm⟩⟩
      | i + 2, h =>
        obtain ⟨j, q, h1, h2⟩ := ih i v (by simpa using h)
        exact ⟨j + 1, q, by simpa using h1, by
          rcases h2 with ⟨x, y⟩ | ⟨x, y⟩
          · exact .inl ⟨by omega, y⟩
          · exact .inr ⟨by omega, y⟩⟩
  exact key sgTab
theorem sg_of_vars {W : World} {ps : List MemPlace} (h : DataW.LaidVars Tryz.prog W [("harrow/token.signs", Rows.laid_harrow_token_signs)] ps) : SG W := by
  obtain ⟨g', t', cs, fuel, p, q, hg', ht', hvar, hd, _, _⟩ := h
  obtain rfl := Option.some.inj (gTab.symm.trans hg')
  obtain rfl := Option.some.inj (gTabType.symm.trans ht')
  obtain ⟨xs, m, rfl, hx, hl, hn, hel⟩ := DataW.trod_array Tryz.underlying185 hd
  have hx1 := congrArg Prod.fst hx
  dsimp only at hx1
  rw [tab_laid] at hx1
  injection hx1 with hx1
  rw [Tryz.cells169] at hel
  have hcell := World.var?_cell gTab hvar
  have key : ∀ j p, sgTab[j]? = some p → W.cell? ⟨1, 2 * j, none⟩ = some (.int .i64 p.1) ∧ W.cell? ⟨1, 2 * j + 1, none⟩ = some (.string ⟨p.2.toArray⟩) := fun j p hp => by
    have hj : j < 24 := (List.getElem?_eq_some_iff.1 hp).1
    have k0 := hel j hj
    obtain ⟨x, hxj⟩ : ∃ x, xs[j]? = some x := ⟨_, List.getElem?_eq_getElem (by omega)⟩
    rw [hxj] at k0
    obtain ⟨a, s, e1, e2⟩ := run_trod k0
    have h3 : (xs.map (·.1))[j]? = some x.1 := by rw [List.getElem?_map, hxj]; rfl
    rw [← hx1, List.getElem?_map, hp] at h3
    have h3 : DataW.agg [.lit (.int .i64 p.1), .lit (.string p.2)] = x.1 := Option.some.inj h3
    rw [e2] at h3
    injection h3 with h3
    injection h3 with h4 h5
    injection h5 with h5 _
    injection h4 with h4
    injection h4 with h4 h4
    injection h5 with h5
    injection h5 with h5
    have hs : s = ⟨p.2.toArray⟩ := by rw [h5]
    have c0 : cs.toList[2 * j]? = some (.int .i64 p.1) := by
      have := congrArg (fun l => l[0]?) e1
      simp only [List.getElem?_take, List.getElem?_drop, List.getElem?_cons_zero] at this
      rw [if_pos (by omega), show j * 2 + 0 = 2 * j from by omega, ← h4] at this
      exact this
    have c1 : cs.toList[2 * j + 1]? = some (.string ⟨p.2.toArray⟩) := by
      have := congrArg (fun l => l[1]?) e1
      simp only [List.getElem?_take, List.getElem?_drop, List.getElem?_cons_succ, List.getElem?_cons_zero] at this
      rw [if_pos (by omega), show j * 2 + 1 = 2 * j + 1 from by omega, hs] at this
      exact this
    exact ⟨(hcell (2 * j)).trans (by simpa using c0), (hcell (2 * j + 1)).trans (by simpa using c1)⟩
  refine ⟨World.block_lt_of_cell? W _ (key 0 _ rfl).1, fun i v hv => ?_⟩
  obtain ⟨j, p, hp, hor⟩ := tab_get i v hv
  obtain ⟨h1, h2⟩ := key j p hp
  rw [Nat.zero_add]
  rcases hor with ⟨rfl, rfl⟩ | ⟨rfl, rfl⟩
  · exact h1
  · exact h2
theorem vars_tail {P : Program} {W : World} {x : String × DataW Unit} {r : List (String × DataW Unit)} {ps : List MemPlace} (h : DataW.LaidVars P W (x :: r) ps) : ∃ q, DataW.LaidVars P W r q := by
  obtain ⟨_, _, _, _, _, q, _, _, _, _, hq, _⟩ := h
  exact ⟨q, hq⟩
theorem run_trodB {H : Type} {enc : TypeId × Value → H} {W : World} {base fuel : Nat} {sp : Nat → Bool} {held : Bool} {c0 c1 : Value} {z : DataW H × List MemPlace}
    (h : DataW.trod enc Tryz.prog W base sp held fuel 218 [c0, c1] = some z) : ∃ a b, c0 = .int .i32 a ∧ c1 = .int .i32 b ∧ z.1 = .agg [.lit (.int .i32 a), .lit (.int .i32 b)] := by
  obtain ⟨y0, y1, n, rfl, _, h0, h1⟩ := trod_struct2 Tryz.underlying218 h
  dsimp only at h0 h1
  rw [Tryz.cells21] at h0 h1
  obtain ⟨a, e0, e0', _⟩ := DataW.trod_int Tryz.underlying21 h0
  obtain ⟨b, e1, e1', _⟩ := DataW.trod_int Tryz.underlying21 h1
  have e0 : [c0] = [Value.int .i32 a] := e0
  have e1 : [c1] = [Value.int .i32 b] := e1
  cases e0
  cases e1
  exact ⟨a, b, rfl, rfl, by rw [e0', e1']⟩

set_option maxRecDepth 100000 in
theorem vb_of_vars {W : World} {rest : List (String × DataW Unit)} {ps : List MemPlace} (h : DataW.LaidVars Tryz.prog W (("harrow/runes.blocks", Rows.laid_harrow_runes_blocks) :: rest) ps) : R.VB W := by
  obtain ⟨g', t', cs, fuel, p, q, hg', ht', hvar, hd, _, _⟩ := h
  obtain rfl := Option.some.inj (gBlk.symm.trans hg')
  obtain rfl := Option.some.inj (gBlkType.symm.trans ht')
  obtain ⟨xs, m, rfl, hx, hl, hn, hel⟩ := DataW.trod_array Tryz.underlying219 hd
  have hx1 := congrArg Prod.fst hx
  dsimp only at hx1
  rw [Tryz.cells219] at hl
  have hcell := World.var?_cell gBlk hvar
  obtain ⟨l⟩ := cs
  match l, hl with
  | [a0, a1, a2, a3, a4, a5, a6, a7, a8, a9], _ =>
    match xs, hn with
    | [x0, x1, x2, x3, x4], _ =>
      have k0 := hel 0 (by omega)
      have k1 := hel 1 (by omega)
      have k2 := hel 2 (by omega)
      have k3 := hel 3 (by omega)
      have k4 := hel 4 (by omega)
      rw [Tryz.cells218] at k0 k1 k2 k3 k4
      obtain ⟨p0, q0, rfl, rfl, r0⟩ := run_trodB (show DataW.trod _ Tryz.prog _ _ _ _ m 218 [a0, a1] = some x0 from k0)
      obtain ⟨p1, q1, rfl, rfl, r1⟩ := run_trodB (show DataW.trod _ Tryz.prog _ _ _ _ m 218 [a2, a3] = some x1 from k1)
      obtain ⟨p2, q2, rfl, rfl, r2⟩ := run_trodB (show DataW.trod _ Tryz.prog _ _ _ _ m 218 [a4, a5] = some x2 from k2)
      obtain ⟨p3, q3, rfl, rfl, r3⟩ := run_trodB (show DataW.trod _ Tryz.prog _ _ _ _ m 218 [a6, a7] = some x3 from k3)
      obtain ⟨p4, q4, rfl, rfl, r4⟩ := run_trodB (show DataW.trod _ Tryz.prog _ _ _ _ m 218 [a8, a9] = some x4 from k4)
      simp only [Rows.laid_harrow_runes_blocks, List.map_cons, List.map_nil, r0, r1, r2, r3, r4, DataW.agg.injEq, List.cons.injEq, DataW.lit.injEq, Lit.int.injEq, and_true, true_and] at hx1
      obtain ⟨⟨e0, e1⟩, ⟨e2, e3⟩, ⟨e4, e5⟩, ⟨e6, e7⟩, e8, e9⟩ := hx1
      subst e0 e1 e2 e3 e4 e5 e6 e7 e8 e9
      have c0 := hcell 0
      exact ⟨World.block_lt_of_cell? W _ c0, c0, hcell 1, hcell 2, hcell 3, hcell 4, hcell 5, hcell 6, hcell 7, hcell 8, hcell 9⟩


abbrev laidL : List (String × DataW Unit) := [("math/bits.deBruijn32tab", Rows.laid_math_bits_deBruijn32tab), ("math/bits.deBruijn64tab", Rows.laid_math_bits_deBruijn64tab), ("internal/strconv.uint64pow10", Rows.laid_internal_strconv_uint64pow10), ("harrow/runes.blocks", Rows.laid_harrow_runes_blocks), ("harrow/token.signs", Rows.laid_harrow_token_signs)]
theorem gw_of_laid {W : World} (h : laidMetH Tryz.prog laidL W) : N.GW W := by
  have h : laidMet Tryz.prog laidL W := h
  obtain ⟨ps, h1, _⟩ := h
  obtain ⟨q2, h2⟩ := vars_tail h1
  obtain ⟨q3, h3⟩ := vars_tail h2
  obtain ⟨q4, h4⟩ := vars_tail h3
  obtain ⟨q5, h5⟩ := vars_tail h4
  exact ⟨sg_of_vars h5, vb_of_vars h4⟩
/-- A world with the tables laid. -/
def layAt (k : Nat) (cs : Array Value) (w : World) : World := { w with heap := w.heap.modify k fun
      | .cells _ t frozen => .cells cs t frozen
      | o => o }
def layTab (w : World) : World := layAt 6 #[.int .i32 0, .int .i32 127, .int .i32 128, .int .i32 2047, .int .i32 2048, .int .i32 55295, .int .i32 57344, .int .i32 65535, .int .i32 65536, .int .i32 1114111] (layAt 5 #[.int .u8 0, .int .u8 1, .int .u8 56, .int .u8 2, .int .u8 57, .int .u8 49, .int .u8 28, .int .u8 3, .int .u8 61, .int .u8 58, .int .u8 42, .int .u8 50, .int .u8 38, .int .u8 29, .int .u8 17, .int .u8 4, .int .u8 62, .int .u8 47, .int .u8 59, .int .u8 36, .int .u8 45, .int .u8 43, .int .u8 51, .int .u8 22, .int .u8 53, .int .u8 39, .int .u8 33, .int .u8 30, .int .u8 24, .int .u8 18, .int .u8 12, .int .u8 5, .int .u8 63, .int .u8 55, .int .u8 48, .int .u8 27, .int .u8 60, .int .u8 41, .int .u8 37, .int .u8 16, .int .u8 46, .int .u8 35, .int .u8 44, .int .u8 21, .int .u8 52, .int .u8 32, .int .u8 23, .int .u8 11, .int .u8 54, .int .u8 26, .int .u8 40, .int .u8 15, .int .u8 34, .int .u8 20, .int .u8 31, .int .u8 10, .int .u8 25, .int .u8 14, .int .u8 19, .int .u8 9, .int .u8 13, .int .u8 8, .int .u8 7, .int .u8 6] (layAt 4 #[.int .u8 0, .int .u8 1, .int .u8 28, .int .u8 2, .int .u8 29, .int .u8 14, .int .u8 24, .int .u8 3, .int .u8 30, .int .u8 22, .int .u8 20, .int .u8 15, .int .u8 25, .int .u8 17, .int .u8 4, .int .u8 8, .int .u8 31, .int .u8 27, .int .u8 13, .int .u8 23, .int .u8 21, .int .u8 19, .int .u8 16, .int .u8 7, .int .u8 26, .int .u8 12, .int .u8 18, .int .u8 6, .int .u8 11, .int .u8 5, .int .u8 10, .int .u8 9] (layAt 2 #[.int .u64 1, .int .u64 10, .int .u64 100, .int .u64 1000, .int .u64 10000, .int .u64 100000, .int .u64 1000000, .int .u64 10000000, .int .u64 100000000, .int .u64 1000000000, .int .u64 10000000000, .int .u64 100000000000, .int .u64 1000000000000, .int .u64 10000000000000, .int .u64 100000000000000, .int .u64 1000000000000000, .int .u64 10000000000000000, .int .u64 100000000000000000, .int .u64 1000000000000000000, .int .u64 10000000000000000000] (layAt 1 #[.int .i64 29, .string ⟨#[37, 101]⟩, .int .i64 30, .string ⟨#[37, 102]⟩, .int .i64 14, .string ⟨#[94, 43]⟩, .int .i64 15, .string ⟨#[94, 45]⟩, .int .i64 13, .string ⟨#[94]⟩, .int .i64 6, .string ⟨#[60, 45]⟩, .int .i64 27, .string ⟨#[45, 62]⟩, .int .i64 7, .string ⟨#[47]⟩, .int .i64 8, .string ⟨#[38]⟩, .int .i64 9, .string ⟨#[33]⟩, .int .i64 10, .string ⟨#[63]⟩, .int .i64 11, .string ⟨#[42]⟩, .int .i64 12, .string ⟨#[43]⟩, .int .i64 16, .string ⟨#[40]⟩, .int .i64 17, .string ⟨#[41]⟩, .int .i64 18, .string ⟨#[46]⟩, .int .i64 21, .string ⟨#[123, 58]⟩, .int .i64 22, .string ⟨#[58, 125]⟩, .int .i64 23, .string ⟨#[123, 124]⟩, .int .i64 24, .string ⟨#[124, 125]⟩, .int .i64 25, .string ⟨#[123, 126]⟩, .int .i64 26, .string ⟨#[126, 125]⟩, .int .i64 19, .string ⟨#[123]⟩, .int .i64 20, .string ⟨#[125]⟩] (layAt 0 #[.string ⟨#[]⟩, .string ⟨#[101, 109, 112, 116, 121]⟩, .string ⟨#[102, 97, 105, 108]⟩, .string ⟨#[97, 110, 121]⟩, .string ⟨#[116, 101, 120, 116]⟩, .string ⟨#[115, 101, 116]⟩, .string ⟨#[99, 97, 108, 108]⟩, .string ⟨#[115, 101, 113]⟩, .string ⟨#[99, 104, 111, 105, 99, 101]⟩, .string ⟨#[115, 116, 97, 114]⟩, .string ⟨#[112, 108, 117, 115]⟩, .string ⟨#[111, 112, 116]⟩, .string ⟨#[97, 110, 100]⟩, .string ⟨#[110, 111, 116]⟩, .string ⟨#[116, 105, 109, 101, 115]⟩, .string ⟨#[108, 101, 97, 115, 116]⟩, .string ⟨#[109, 111, 115, 116]⟩, .string ⟨#[112, 108, 97, 99, 101]⟩, .string ⟨#[115, 117, 98]⟩, .string ⟨#[103, 114, 111, 117, 112]⟩, .string ⟨#[108, 105, 115, 116]⟩, .string ⟨#[115, 117, 98, 115, 116]⟩, .string ⟨#[115, 116, 114, 105, 110, 103]⟩, .string ⟨#[112, 105, 99, 107]⟩] (w))))))
end Go.Proofs.YtnpifgcgjgddoaaGreatDoor

namespace Go.Proofs.YtnpifgcgjgddoaaGreatDoor.N
open Go.RowKit
set_option maxHeartbeats 1000000 in
set_option maxRecDepth 100000 in
theorem pg_fresh (b : Nat) (w : World) (h0 : w.cell? ⟨b, 0, none⟩ = some (.pointer none)) (hsh : w.shape? b = some (59, 2)) (hfz : w.frozen? ⟨b, 0, none⟩ = false) :
    Calls Tryz.prog 71 #[.pointer (some ⟨b, 0, none⟩)] w fun e w' => e = .returned (.tuple #[]) ∧ w' = w.setCell ⟨b, 0, none⟩ (.pointer (some ⟨b, 0, none⟩)) := by
  obtain ⟨j, hj, hjs⟩ := Option.map_eq_some_iff.1 Tryz.sizeB
  go_enter Tryz.func71, Tryz.ntmps71
  go_wp2
  rw [Lib.run_to_unsafe w ⟨b, 0, none⟩ Tryz.underlying54 Tryz.underlying140 hj (by rw [hjs]; decide) hsh (Nat.zero_lt_succ 1)]
  simp only [Result.andThen]
  rw [Oper.upon_value]
  go_wp2
  rw [run_callFunc_extern Tryz.func94 (by kernel_rfl) (by kernel_rfl) (by kernel_rfl) (e := Extern.AbiNoEscape.same) (by kernel_rfl)]
  rw [Lib.run_noEscape]
  simp only [Result.andThen]
  rw [Oper.upon_value]
  go_wp2
  rw [Lib.run_from_unsafe w ⟨b, 0, none⟩ Tryz.underlying140 Tryz.underlying54 hj hsh (by kernel_rfl)]
  simp only [Result.andThen]
  rw [Oper.upon_value]
  go_wp2
  go_end0
  exact ⟨rfl, rfl⟩

theorem pg_check (b : Nat) (bs : List Value) (w : World) (h : Lib.IsBuilder 59 5 b b bs w) :
    Calls Tryz.prog 71 #[.pointer (some ⟨b, 0, none⟩)] w fun e w' => e = .returned (.tuple #[]) ∧ Lib.BuilderAt 59 5 b b (.pointer (some ⟨b, 0, none⟩)) bs w' ∧ Below b w w' ∧ KeepT b w w' := by
  rcases h with h | h
  · refine (pg_fresh b w h.cell0 h.shape h.frozen0).mono ?_
    rintro e w' ⟨rfl, rfl⟩
    exact ⟨rfl, h.used _, (Below.refl b w).setCell (p := ⟨b, 0, none⟩) h.1 _, KeepT.setCell b 0 w _⟩
  · refine (check_used b w h.cell0).mono ?_
    rintro e w' ⟨rfl, rfl⟩
    exact ⟨rfl, h, Below.refl b _, KeepT.refl b _⟩

set_option maxHeartbeats 1000000 in
set_option maxRecDepth 100000 in
theorem pg_write (b : Nat) (bs : List Value) (s : ByteArray) (w : World) (h : Lib.IsBuilder 59 5 b b bs w) (hlen : bs.length + s.size ≤ 140737488355328) :
    Calls Tryz.prog 48 #[.pointer (some ⟨b, 0, none⟩), .string s] w fun e w' => e = .returned (.tuple #[.int .i64 s.size, .nilIface]) ∧ Lib.IsBuilder 59 5 b b (bs ++ Lib.strCells s) w' ∧ Below b w w' ∧ KeepT b w w' := by
  obtain ⟨i0, hi, hz0, hz1, hz2⟩ := info_parts Tryz.info5
  go_enter Tryz.func48, Tryz.ntmps48
  go_wp2_with fail
  refine (pg_check b bs _ h).mono ?_
  rintro e w1 ⟨rfl, h1, hb1, hk1⟩
  have hlt := h1.lt
  obtain ⟨hB, v, hbk, hown, hne⟩ := h1
  have c0 : w1.cell? ⟨b, 0, none⟩ = some (.pointer (some ⟨b, 0, none⟩)) := by rw [Lib.cell_of_heap hbk]; rfl
  have c1 : w1.cell? ⟨b, 1, none⟩ = some v := by rw [Lib.cell_of_heap hbk]; rfl
  go_wp2_with (at_builtin; refine Lib.wpList_append_own_string _ rfl _ _ 55 9 rfl b 5 i0 Tryz.underlying55 Tryz.underlying9 hi hz0 hz1 hz2 _ _ _ rfl hown s rfl ?c3 ?c4 ?c5 ?_)
  case c3 => unfold maxLen; omega
  case c4 => omega
  case c5 => omega
  intro v' w2 hown' hgrow _
  have hb2 : w2.heap[b]? = some (.cells #[.pointer (some ⟨b, 0, none⟩), v] 59 (0, 0)) := by
    rw [hgrow.block b hlt (fun e => hne e.symm)]
    exact hbk
  have d0 : w2.cell? ⟨b, 0, none⟩ = some (.pointer (some ⟨b, 0, none⟩)) := by rw [Lib.cell_of_heap hb2]; rfl
  have d1 : w2.cell? ⟨b, 1, none⟩ = some v := by rw [Lib.cell_of_heap hb2]; rfl
  have f1 : w2.frozen? ⟨b, 1, none⟩ = false := Lib.frozen_of_heap hb2 1
  obtain ⟨ao, n', cap, rfl⟩ : ∃ ao n' cap, v' = .slice ao n' cap := by
    rcases hown'.2 with ⟨hv, _⟩ | ⟨g, cap, cur, hv, _⟩
    · exact ⟨_, _, _, hv⟩
    · exact ⟨_, _, _, hv⟩
  go_wp2
  go_ret2
  refine ⟨rfl, .inr ?_, ?_, ?_⟩
  · exact Lib.BuilderAt.put (T := 59) (e := 5) hB hb2 (bs' := bs ++ Lib.strCells s) (by simpa [Lib.strCells_length] using hown') (by decide)
  · exact (hb1.grown hgrow (by omega) (fun k hk => (hown.lt k hk).1)).setCell (p := ⟨b, 1, none⟩) hB _
  · exact (hk1.trans (KeepT.grown hown hgrow)).trans (KeepT.setCell b 1 w2 _)

set_option maxHeartbeats 1000000 in
set_option maxRecDepth 100000 in
theorem pg_len (b : Nat) (bs : List Value) (w : World) (h : Lib.IsBuilder 59 5 b b bs w) : Calls Tryz.prog 50 #[.pointer (some ⟨b, 0, none⟩)] w fun e w' => e = .returned (.int .i64 bs.length) ∧ w' = w := by
  obtain ⟨p, hB, v, hbk, hown, hne⟩ : ∃ p, Lib.BuilderAt 59 5 b b p bs w := by
    rcases h with h | h
    · exact ⟨_, h⟩
    · exact ⟨_, h⟩
  have c1 : w.cell? ⟨b, 1, none⟩ = some v := by rw [Lib.cell_of_heap hbk]; rfl
  obtain ⟨ao, cap, rfl⟩ : ∃ ao cap, v = .slice ao bs.length cap := by
    rcases hown.2 with ⟨hv, hz⟩ | ⟨g, cap, cur, hv, _⟩
    · exact ⟨none, 0, by rw [hv, hz]⟩
    · exact ⟨_, _, hv⟩
  go_enter Tryz.func50, Tryz.ntmps50
  go_wp2
  go_ret
  exact ⟨rfl, rfl⟩

set_option maxHeartbeats 2000000 in
set_option maxRecDepth 100000 in
theorem pg_text (b : Nat) (l : List UInt8) (w : World) (h : Lib.IsBuilder 59 5 b b (Lib.byteCells l) w) (h0 : l ≠ []) : Calls Tryz.prog 51 #[.pointer (some ⟨b, 0, none⟩)] w fun e w' => e = .returned (.string ⟨l.toArray⟩) ∧ Below b w w' := by
  obtain ⟨p, hB, v, hbk, hown, hne⟩ : ∃ p, Lib.BuilderAt 59 5 b b p (Lib.byteCells l) w := by
    rcases h with h | h
    · exact ⟨_, h⟩
    · exact ⟨_, h⟩
  have hl0 : l.length ≠ 0 := by simpa using h0
  rw [Lib.byteCells_length] at hown
  obtain ⟨g, cap, cur, rfl, hbg, hg, hnc, hcm, hcs, htake⟩ : ∃ g cap cur, v = .slice (some ⟨g, 0, none⟩) l.length cap ∧ b ≤ g ∧ w.heap[g]? = some (.cells cur 5 (0, 0)) ∧ l.length ≤ cap ∧ cap ≤ maxLen ∧ cur.size = cap * 1 ∧ cur.toList.take (l.length * 1) = Lib.byteCells l := by
    rcases hown.2 with ⟨_, hz⟩ | ⟨g, cap, cur, hv, r⟩
    · exact absurd hz hl0
    · exact ⟨g, cap, cur, hv, r⟩
  have c1 : w.drew.cell? ⟨b, 1, none⟩ = some (.slice (some ⟨g, 0, none⟩) l.length cap) := by
    have : w.drew.heap[b]? = some (.cells #[p, .slice (some ⟨g, 0, none⟩) l.length cap] 59 (0, 0)) := hbk
    rw [Lib.cell_of_heap this]; rfl
  have hSD : (Builtin.unsafeSliceData_ #[55] 128 #[.slice (some ⟨g, 0, none⟩) l.length cap]).run Tryz.prog w.drew = .ok (.pointer (some ⟨g, 0, none⟩)) w.drew :=
    Lib.run_unsafeSliceData_row _ _ _ _ _ _ (by omega)
  have hUS : (Builtin.unsafeString_ #[128, 3] 9 #[.pointer (some ⟨g, 0, none⟩), .int .i64 l.length]).run Tryz.prog w.drew = .ok (.string ⟨l.toArray⟩) (w.drew.freeze ⟨g, 0, none⟩ l.length) := by
    refine Lib.run_unsafeString_row w.drew 128 3 9 5 Tryz.underlying128 (by kernel_rfl) g cur.size (by have hg' : w.drew.heap[g]? = some (.cells cur 5 (0, 0)) := hg; simp [World.shape?, hg']) l h0 (by omega) (by unfold maxLen at hcm; omega) ?_
    intro j x hx
    have := hown.cells (g := g) rfl j (.int .u8 x.toNat) (by simp [Lib.byteCells, hx])
    exact this
  have mixed : Tryz.prog.follows Departure.mixedOrders = true := by kernel_rfl
  go_enter Tryz.func51, Tryz.ntmps51
  go_wp2
  go_region_o
  all_goals (go_wp2; go_ret; exact ⟨rfl, Lib.below_freeze (Below.drew (Below.refl b w)) (p := ⟨g, 0, none⟩) hbg _⟩)

theorem dlen (s : ByteArray) : s.data.toList.length = s.size := by rw [Array.length_toList]; rfl
/-- Texts one behind the other. -/
def catS (ss : List ByteArray) : List UInt8 := ss.flatMap fun s => s.data.toList
theorem catS_succ {ss : List ByteArray} {k : Nat} {s : ByteArray} (h : ss[k]? = some s) : catS (ss.take (k + 1)) = catS (ss.take k) ++ s.data.toList := by
  rw [List.take_add_one, h]
  unfold catS
  rw [List.flatMap_append]
  simp
theorem catS_take_le (ss : List ByteArray) (k : Nat) : (catS (ss.take k)).length ≤ (catS ss).length := by
  have h : catS ss = catS (ss.take k) ++ catS (ss.drop k) := by
    unfold catS
    rw [← List.flatMap_append, List.take_append_drop]
  rw [h, List.length_append]
  omega
/-- The page holds a text; all but it is as it was. -/
structure Pg (b : Nat) (w wr : World) (bs : List UInt8) : Prop where
  i : Lib.IsBuilder 59 5 b b (Lib.byteCells bs) wr
  bl : Below b w wr
  k : KeepT b w wr
theorem Pg.start {b : Nat} {w : World} {bs : List UInt8} (h : Lib.IsBuilder 59 5 b b (Lib.byteCells bs) w) : Pg b w w bs := ⟨h, Below.refl _ _, KeepT.refl _ _⟩
theorem pg_lt {b : Nat} {w : World} {bs : List Value} (h : Lib.IsBuilder 59 5 b b bs w) : b < w.heap.size := by
  rcases h with h | h
  · exact h.lt
  · exact h.lt
theorem pg_below {w w' : World} {b : Nat} {bs : List Value} (h : Lib.IsBuilder 59 5 b b bs w) (hb : Below w.heap.size w w') : Lib.IsBuilder 59 5 b b bs w' := by
  have key : ∀ p, Lib.BuilderAt 59 5 b b p bs w → Lib.BuilderAt 59 5 b b p bs w' := fun p hp => by
    have hlt := hp.lt
    obtain ⟨hB, v, hbk, hown, hne⟩ := hp
    exact ⟨hB, v, (hb.block b hlt).trans hbk, T.own_below hown hb, hne⟩
  exact h.imp (key _) (key _)
theorem Pg.later {b : Nat} {w wr w2 : World} {bs : List UInt8} (h : Pg b w wr bs) (hb : Below wr.heap.size wr w2) : Pg b w w2 bs :=
  ⟨pg_below h.i hb, h.bl.trans (hb.mono (Nat.le_of_lt (pg_lt h.i))), h.k.trans (KeepT.below hb)⟩
theorem Pg.trans {b : Nat} {w w1 w2 : World} {bs bs' : List UInt8} (h : Pg b w w1 bs) (k : Pg b w1 w2 bs') : Pg b w w2 bs' := ⟨k.i, h.bl.trans k.bl, h.k.trans k.k⟩
/-- A row that is no row of bytes, and not the page, reads as it did. -/
structure Fx (W : World) (b g : Nat) (c : Array Value) (t : TypeId) : Prop where
  e : ∃ fr, W.heap[g]? = some (.cells c t fr)
  n : g ≠ b
  t : t ≠ 5
theorem Fx.keep {W W' : World} {b g : Nat} {c : Array Value} {t : TypeId} (h : Fx W b g c t) (k : KeepT b W W') : Fx W' b g c t := by
  obtain ⟨⟨fr, he⟩, hn, ht⟩ := h
  refine ⟨⟨fr, ?_⟩, hn, ht⟩
  rw [k.block g (Array.getElem?_eq_some_iff.1 he).1 hn (fun c' fr' q => by rw [he] at q; cases q; exact ht rfl)]
  exact he
theorem Fx.cell {W : World} {b g : Nat} {c : Array Value} {t : TypeId} (h : Fx W b g c t) (j : Nat) : W.cell? ⟨g, j, none⟩ = c[j]? := by
  obtain ⟨⟨fr, he⟩, _, _⟩ := h
  exact Lib.cell_of_heap he j
set_option maxHeartbeats 2000000 in
set_option maxRecDepth 100000 in
theorem add_any (b g : Nat) (bs : List UInt8) (ss : List ByteArray) (w : World) (h : Lib.IsBuilder 59 5 b b (Lib.byteCells bs) w) (hr : Fx w b g (ss.map Value.string).toArray 9) (hlen : bs.length + (catS ss).length ≤ 140737488355328) (hn : ss.length ≤ 2) :
    Calls Tryz.prog 27 #[.pointer (some ⟨b, 0, none⟩), .slice (some ⟨g, 0, none⟩) ss.length ss.length] w fun e w' => e = .returned (.tuple #[]) ∧ Pg b w w' (bs ++ catS ss) := by
  have HP : Hid (Pg b w w (bs ++ catS (ss.take 0))) := by
    show Pg b w w (bs ++ catS (ss.take 0))
    rw [List.take_zero]; show Pg b w w (bs ++ []); rw [List.append_nil]; exact Pg.start h
  have HR := (show Hid (Fx w b g (ss.map Value.string).toArray 9) from hr)
  have HL := (show Hid (bs.length + (catS ss).length ≤ 140737488355328) from hlen)
  have HG := (show Hid (∀ k, k < ss.length → ∃ s, ss[k]? = some s) from fun k hk => ⟨_, List.getElem?_eq_getElem hk⟩)
  have HT := (show Hid (ss.take ss.length = ss) from List.take_length)
  clear h hr hlen
  generalize hm : ss.length = m at *
  go_enter Tryz.func27, Tryz.ntmps27
  go_wp2_with fail
  go_loopw [8] (fun t wr => ∃ k : Nat, k ≤ m ∧ t = .int .i64 k ∧ Hid (Pg b w wr (bs ++ catS (ss.take k)))) (fun t _ => m - (intOf t).toNat)
  case atStart => exact ⟨0, by omega, by go_num, HP⟩
  case round =>
    obtain ⟨k, hk, rfl, HW⟩ := hrel
    clear HP
    by_cases hlt : k < m
    · obtain ⟨s, hs⟩ := HG.out k hlt
      have c0 : wr.cell? ⟨g, k, none⟩ = some (.string s) := by
        rw [(HR.out.keep HW.out.k).cell k]
        simp [hs]
      have HE := (show Hid (catS (ss.take (k + 1)) = catS (ss.take k) ++ s.data.toList) from catS_succ hs)
      have hle := catS_take_le ss (k + 1)
      have hL := HL.out
      have HC : Hid (∀ _ : Unit, Calls Tryz.prog 48 #[.pointer (some ⟨b, 0, none⟩), .string s] wr fun e w' => e = .returned (.tuple #[.int .i64 s.size, .nilIface]) ∧ Lib.IsBuilder 59 5 b b (Lib.byteCells (bs ++ catS (ss.take k)) ++ Lib.strCells s) w' ∧ Below b wr w' ∧ KeepT b wr w') := fun _ => pg_write b _ s wr HW.out.i (by
        rw [HE.out, List.length_append] at hle
        rw [Lib.byteCells_length, List.length_append]
        have := dlen s
        omega)
      have z0 : (0 : Int) ≤ (k : Int) := by omega
      have z1 : (k : Int) < (m : Int) := by omega
      clear hle hL hs HG HL
      go_wp2_with fail
      refine (HC.out ()).mono ?_
      rintro e w1 ⟨rfl, i1, b1, k1⟩
      have HW2 : Hid (Pg b w w1 (bs ++ catS (ss.take (k + 1)))) := by
        show Pg b w w1 _
        rw [HE.out, ← List.append_assoc]
        refine ⟨?_, HW.out.bl.trans b1, HW.out.k.trans k1⟩
        rw [bcells, ← scells]
        exact i1
      clear HC HE HW i1 b1 k1 c0
      go_wp2_with fail
      go_roundw
      case rel => exact ⟨k + 1, by omega, by go_num, HW2⟩
      case measure => simp [intOf]; omega
    · have z1 : ¬ (k : Int) < (m : Int) := by omega
      have hkm : k = m := by omega
      subst hkm
      clear HG
      go_wp2_with fail
      go_end0
      have := HW.out
      rw [HT.out] at this
      exact ⟨rfl, this⟩
end Go.Proofs.YtnpifgcgjgddoaaGreatDoor.N

namespace Go.Proofs.YtnpifgcgjgddoaaGreatDoor.N
open Go.RowKit
/-- No suffix stands here. -/
def noS (E : PE) (i : Nat) : Prop := sufN E i = .inr none
theorem noS_of {E : PE} {i : Nat} (h0 : kdA E i ≠ 10) (h1 : kdA E i ≠ 11) (h2 : kdA E i ≠ 12) (h3 : kdA E i ≠ 13) (h4 : kdA E i ≠ 14) (h5 : kdA E i ≠ 15) (h6 : kdA E i ≠ 27) : noS E i := by
  unfold noS sufN sufK
  rw [if_neg h0, if_neg h1, if_neg h2, if_neg h3, if_neg h4, if_neg h5, if_neg h6]
theorem bgn_kd {E : PE} {i : Nat} (h : bgn E i = true) : kdA E i = 8 ∨ kdA E i = 9 ∨ kdA E i = 2 ∨ kdA E i = 3 ∨ kdA E i = 28 ∨ kdA E i = 5 ∨ kdA E i = 18 ∨ kdA E i = 29 ∨ kdA E i = 30 ∨ kdA E i = 16 ∨ kdA E i = 19 ∨ kdA E i = 21 ∨ kdA E i = 23 ∨ kdA E i = 25 ∨ kdA E i = 1 := by
  unfold bgn bgK at h
  simp only [Bool.or_eq_true, Bool.and_eq_true, beq_iff_eq] at h
  omega
theorem bgn_noS {E : PE} {i : Nat} (h : bgn E i = true) : noS E i := by
  have := bgn_kd h
  exact noS_of (by omega) (by omega) (by omega) (by omega) (by omega) (by omega) (by omega)
theorem bgn_no {E : PE} {i : Nat} (h0 : bgK (kdA E i) = false) (h1 : kdA E i ≠ 1) : bgn E i = false := by
  unfold bgn
  rw [h0, Bool.false_or, Bool.and_eq_false_iff]
  exact .inl (beq_eq_false_iff_ne.2 h1)
theorem g6_noS {E : PE} {i d : Nat} (hi : i ≤ E.l.length) (h : noS E i) : gN E 6 i d = .inl (i, []) := by
  rw [g6 E i d hi, h]
theorem g3_no {E : PE} {i d : Nat} (hi : i ≤ E.l.length) (h : bgn E i = false) : gN E 3 i d = .inl (i, []) := by
  rw [g3 E i d hi, if_neg (by rw [h]; decide)]
theorem g1_no {E : PE} {i d : Nat} (hi : i ≤ E.l.length) (h : kdA E i ≠ 7) : gN E 1 i d = .inl (i, []) := by
  rw [g1 E i d hi, if_neg h]

structure S3 (E : PE) (i d a : Nat) (L : List Nd) : Prop where
  b : bgn E i = true
  k : ¬ (kdA E i = 8 ∨ kdA E i = 9)
  l : i < a
  r : a ≤ E.l.length
  e : (bnd (gN E 5 i d) fun a ns => ahd ns (gN E 6 a d)) = ahd L (gN E 6 a d)
structure S2 (E : PE) (i d a : Nat) (L : List Nd) : Prop where
  b : bgn E i = true
  l : i < a
  r : a ≤ E.l.length
  e : noS E a → gN E 4 i d = .inl (a, L)
structure S1 (E : PE) (i d a : Nat) (L : List Nd) : Prop where
  b : bgn E i = true
  l : i < a
  r : a ≤ E.l.length
  e : noS E a → gN E 2 i d = ahd L (gN E 3 a d)
structure S0 (E : PE) (i d a : Nat) (L : List Nd) : Prop where
  b : bgn E i = true
  l : i < a
  r : a ≤ E.l.length
  e : noS E a → bgn E a = false → gN E 0 i d = ahd L (gN E 1 a d)
theorem ahd_one (L : List Nd) (a : Nat) : ahd L (.inl (a, [])) = .inl (a, L) := by show Sum.inl _ = Sum.inl _; rw [List.append_nil]
/-- A primary. -/
theorem S3.of5 {E : PE} {i d a : Nat} {L : List Nd} (hb : bgn E i = true) (hk : ¬ (kdA E i = 8 ∨ kdA E i = 9)) (hl : i < a) (hr : a ≤ E.l.length) (h : gN E 5 i d = .inl (a, L)) : S3 E i d a L :=
  ⟨hb, hk, hl, hr, by rw [h]; rfl⟩
/-- A leaf. -/
theorem S3.leaf {E : PE} {i d c : Nat} {L : List Nd} (hb : bgn E i = true) (hk : ¬ (kdA E i = 8 ∨ kdA E i = 9)) (hp : primL E i = .inl (L, c)) : S3 E i d (i + c) L := by
  have hl := prim_lt (bgn_lt hb) hp
  refine S3.of5 hb hk (by have := hl.1; dsimp only at this; omega) hl.2 ?_
  rw [g5 E i d (bgn_lt hb), hp]
/-- Brackets around an exp. -/
theorem S3.wit {E : PE} {i d a : Nat} {L ns : List Nd} {c : Int} (hb : bgn E i = true) (hk : ¬ (kdA E i = 8 ∨ kdA E i = 9)) (hp : primL E i = .inr (c, ns)) (hd : d < 240) (h : S0 E (i + 1) (d + 1) a L) (hc : kdA E a = c) (hcc : c = 17 ∨ c = 20 ∨ c = 22 ∨ c = 24 ∨ c = 26) : S3 E i d (a + 1) (L ++ ns) := by
  have hal : a < E.l.length := kd_lt (by omega)
  have h1 : gN E 0 (i + 1) (d + 1) = .inl (a, L) := by
    rw [h.e (noS_of (by omega) (by omega) (by omega) (by omega) (by omega) (by omega) (by omega)) (bgn_no (by rw [hc]; rcases hcc with q | q | q | q | q <;> rw [q] <;> rfl) (by omega)), g1_no h.r (by omega), ahd_one]
  refine S3.of5 hb hk (by have := h.l; omega) hal ?_
  rw [g5 E i d (bgn_lt hb), hp]
  dsimp only
  rw [if_neg (by omega), h1]
  show (if kdA E a = c then _ else _) = _
  rw [if_pos hc]
/-- A suffix behind. -/
theorem S3.suf {E : PE} {i d a c : Nat} {L : List Nd} {n : Nd} (h : S3 E i d a L) (hs : sufN E a = .inl (n, c)) : S3 E i d (a + c) (L ++ [n]) := by
  have hl := suf_lt hs
  refine ⟨h.b, h.k, by have := h.l; omega, hl.2, ?_⟩
  rw [h.e, g6 E a d h.r, hs]
  dsimp only
  rw [ahd_ahd]
theorem S2.of3 {E : PE} {i d a : Nat} {L : List Nd} (h : S3 E i d a L) : S2 E i d a L := by
  refine ⟨h.b, h.l, h.r, fun hn => ?_⟩
  rw [g4 E i d (by have := h.l; have := h.r; omega), if_pos h.b, if_neg h.k, h.e, g6_noS h.r hn, ahd_one]
theorem S2.pre {E : PE} {i d a : Nat} {L : List Nd} (hk : kdA E i = 8 ∨ kdA E i = 9) (hd : d < 240) (h : S2 E (i + 1) (d + 1) a L) : S2 E i d a (L ++ [nd0 (if kdA E i = 8 then 12 else 13)]) := by
  have hb : bgn E i = true := by
    unfold bgn bgK
    rcases hk with q | q <;> rw [q] <;> rfl
  refine ⟨hb, by have := h.l; omega, h.r, fun hn => ?_⟩
  rw [g4 E i d (by have := h.l; have := h.r; omega), if_pos hb, if_pos hk, if_neg (by omega), h.e hn]
  rfl
theorem S1.of2 {E : PE} {i d a : Nat} {L : List Nd} (h : S2 E i d a L) : S1 E i d a L := by
  refine ⟨h.b, h.l, h.r, fun hn => ?_⟩
  rw [g2 E i d (by have := h.l; have := h.r; omega), h.e hn]
  rfl
theorem S1.seq {E : PE} {i d b a : Nat} {L M : List Nd} (h1 : S1 E i d b L) (h2 : S2 E b d a M) : S1 E i d a (L ++ M ++ [nd0 7]) := by
  refine ⟨h1.b, by have := h1.l; have := h2.l; omega, h2.r, fun hn => ?_⟩
  rw [h1.e (bgn_noS h2.b), g3 E b d h1.r, if_pos h2.b, h2.e hn]
  show ahd L (ahd (M ++ [nd0 7]) _) = _
  rw [ahd_ahd, List.append_assoc]
theorem S0.of1 {E : PE} {i d a : Nat} {L : List Nd} (h : S1 E i d a L) : S0 E i d a L := by
  refine ⟨h.b, h.l, h.r, fun hn hb => ?_⟩
  rw [g0 E i d (by have := h.l; have := h.r; omega), h.e hn, g3_no h.r hb, ahd_one]
  rfl
theorem S0.alt {E : PE} {i d b a : Nat} {L M : List Nd} (h1 : S0 E i d b L) (hk : kdA E b = 7) (h2 : S1 E (b + 1) d a M) : S0 E i d a (L ++ M ++ [nd0 8]) := by
  refine ⟨h1.b, by have := h1.l; have := h2.l; omega, h2.r, fun hn hb => ?_⟩
  rw [h1.e (noS_of (by omega) (by omega) (by omega) (by omega) (by omega) (by omega) (by omega)) (bgn_no (by rw [hk]; rfl) (by omega)), g1 E b d h1.r, if_pos hk, h2.e hn, g3_no h2.r hb, ahd_one]
  show ahd L (ahd (M ++ [nd0 8]) _) = _
  rw [ahd_ahd, List.append_assoc]
end Go.Proofs.YtnpifgcgjgddoaaGreatDoor.N

namespace Go.Proofs.YtnpifgcgjgddoaaGreatDoor.N
open Go.RowKit
/-- How strongly a node's text holds together. -/
def hld (op : Int) : Nat := if op = 8 then 0 else if op = 7 then 1 else if op = 12 ∨ op = 13 then 2 else if op = 9 ∨ op = 10 ∨ op = 11 ∨ op = 14 ∨ op = 15 ∨ op = 16 ∨ op = 22 ∨ op = 23 then 3 else 4
/-- A token, or a blank. -/
abbrev It := Option Tk
def sgI (k : Int) : It := some ⟨k, 0, 0, 0, ⟨#[]⟩, 0, 0, 0, 0⟩
def nuI (k n : Int) : It := some ⟨k, n, 0, 0, ⟨#[]⟩, 0, 0, 0, 0⟩
def txI (k : Int) (s : ByteArray) : It := some ⟨k, 0, 0, 0, s, 0, 0, 0, 0⟩
abbrev Ent := Nat × List It
def partI (k : Nat) (e : Ent) : List It := if e.1 < k then [sgI 16] ++ (e.2 ++ [sgI 17]) else e.2
/-- The items of a node's text, its parts' given. -/
def nodeI (n : Nd) (a b : Ent) : List It :=
  if n.op = 1 then [sgI 29] else if n.op = 2 then [sgI 30] else if n.op = 3 then [sgI 18] else if n.op = 4 then [txI 2 n.tx]
  else if n.op = 5 then [some ⟨3, 0, 0, 0, ⟨#[]⟩, n.s0, n.s1, n.s2, n.s3⟩] else if n.op = 6 then [txI 1 n.tx]
  else if n.op = 7 then partI 1 a ++ ([none] ++ partI 2 b) else if n.op = 8 then partI 0 a ++ ([none, sgI 7, none] ++ partI 1 b)
  else if n.op = 9 then partI 3 a ++ [sgI 11] else if n.op = 10 then partI 3 a ++ [sgI 12] else if n.op = 11 then partI 3 a ++ [sgI 10]
  else if n.op = 12 then [sgI 8] ++ partI 2 a else if n.op = 13 then [sgI 9] ++ partI 2 a
  else if n.op = 14 then partI 3 a ++ [nuI 13 n.nn] else if n.op = 15 then partI 3 a ++ [nuI 14 n.nn] else if n.op = 16 then partI 3 a ++ [nuI 15 n.nn]
  else if n.op = 17 then [sgI 19, sgI 20] else if n.op = 18 then [sgI 19] ++ (partI 0 a ++ [sgI 20])
  else if n.op = 19 then [txI 21 n.tx, none] ++ (partI 0 a ++ [none, sgI 22]) else if n.op = 20 then [sgI 23, none] ++ (partI 0 a ++ [none, sgI 24])
  else if n.op = 21 then [sgI 25, none] ++ (partI 0 a ++ [none, sgI 26])
  else if n.op = 22 then partI 3 a ++ [none, sgI 27, none, txI 2 n.tx] else partI 3 a ++ [none, sgI 27, none, nuI 4 n.nn]
def tksI (l : List It) : List Tk := l.filterMap id
theorem tksI_app (a b : List It) : tksI (a ++ b) = tksI a ++ tksI b := List.filterMap_append
/-- These tokens stand here (places aside). -/
def Occ (E : PE) (i : Nat) (ts : List Tk) : Prop := ∀ j t, ts[j]? = some t → ∃ u, E.l[i + j]? = some u ∧ lkT u = lkT t
theorem Occ.left {E : PE} {i : Nat} {a b : List Tk} (h : Occ E i (a ++ b)) : Occ E i a := fun j t ht => h j t (by rw [List.getElem?_append_left (List.getElem?_eq_some_iff.1 ht).1]; exact ht)
theorem Occ.right {E : PE} {i : Nat} {a b : List Tk} (h : Occ E i (a ++ b)) : Occ E (i + a.length) b := fun j t ht => by
  have := h (a.length + j) t (by rw [List.getElem?_append_right (by omega), Nat.add_sub_cancel_left]; exact ht)
  rwa [← Nat.add_assoc] at this
theorem Occ.tk {E : PE} {i : Nat} {t : Tk} {ts : List Tk} (h : Occ E i (t :: ts)) : i < E.l.length ∧ kdA E i = t.kd ∧ (tkA E i).kd = t.kd ∧ (tkA E i).nn = t.nn ∧ (tkA E i).tx = t.tx ∧ (tkA E i).s0 = t.s0 ∧ (tkA E i).s1 = t.s1 ∧ (tkA E i).s2 = t.s2 ∧ (tkA E i).s3 = t.s3 := by
  obtain ⟨u, hu, he⟩ := h 0 t rfl
  rw [Nat.add_zero] at hu
  have e1 : tkA E i = u := by unfold tkA; rw [hu]; rfl
  have e2 : kdA E i = u.kd := by unfold kdA; rw [hu]
  rw [e1, e2]
  refine ⟨(List.getElem?_eq_some_iff.1 hu).1, ?_, ?_, ?_, ?_, ?_, ?_, ?_, ?_⟩
  · have h := congrArg Tk.kd he; exact h
  · have h := congrArg Tk.kd he; exact h
  · have h := congrArg Tk.nn he; exact h
  · have h := congrArg Tk.tx he; exact h
  · have h := congrArg Tk.s0 he; exact h
  · have h := congrArg Tk.s1 he; exact h
  · have h := congrArg Tk.s2 he; exact h
  · have h := congrArg Tk.s3 he; exact h
theorem Occ.next {E : PE} {i : Nat} {t : Tk} {ts : List Tk} (h : Occ E i (t :: ts)) : Occ E (i + 1) ts := Occ.right (a := [t]) h
/-- Read at a strength. -/
def Rz (h : Nat) (E : PE) (i d a : Nat) (Q : List Nd) : Prop := if h = 0 then S0 E i d a Q else if h = 1 then S1 E i d a Q else if h = 2 then S2 E i d a Q else S3 E i d a Q
theorem Rz.s3 {h : Nat} {E : PE} {i d a : Nat} {Q : List Nd} (q : Rz h E i d a Q) (hh : 3 ≤ h) : S3 E i d a Q := by
  unfold Rz at q
  rwa [if_neg (by omega), if_neg (by omega), if_neg (by omega)] at q
theorem Rz.s2 {h : Nat} {E : PE} {i d a : Nat} {Q : List Nd} (q : Rz h E i d a Q) (hh : 2 ≤ h) : S2 E i d a Q := by
  by_cases h2 : h = 2
  · subst h2; exact q
  · exact S2.of3 (q.s3 (by omega))
theorem Rz.s1 {h : Nat} {E : PE} {i d a : Nat} {Q : List Nd} (q : Rz h E i d a Q) (hh : 1 ≤ h) : S1 E i d a Q := by
  by_cases h2 : h = 1
  · subst h2; exact q
  · exact S1.of2 (q.s2 (by omega))
theorem Rz.s0 {h : Nat} {E : PE} {i d a : Nat} {Q : List Nd} (q : Rz h E i d a Q) : S0 E i d a Q := by
  by_cases h2 : h = 0
  · subst h2; exact q
  · exact S0.of1 (q.s1 (by omega))
theorem Rz.of3 {h : Nat} {E : PE} {i d a : Nat} {Q : List Nd} (q : S3 E i d a Q) (hh : 3 ≤ h) : Rz h E i d a Q := by
  unfold Rz
  rwa [if_neg (by omega), if_neg (by omega), if_neg (by omega)]
theorem Rz.low {h k : Nat} {E : PE} {i d a : Nat} {Q : List Nd} (q : Rz h E i d a Q) (hk : k ≤ h) : Rz k E i d a Q := by
  by_cases k0 : k = 0
  · subst k0; exact q.s0
  · by_cases k1 : k = 1
    · subst k1; exact q.s1 hk
    · by_cases k2 : k = 2
      · subst k2; exact q.s2 hk
      · exact Rz.of3 (q.s3 (by omega)) (by omega)
/-- Items that are read, at a strength, as a pattern of a height. -/
def Rds (h : Nat) (its : List It) (Q : List Nd) (ht : Nat) : Prop := ∀ (E : PE) (i d : Nat), E.tm = T.tmB → Occ E i (tksI its) → kdA E (i + (tksI its).length) ≠ 6 → d + ht ≤ 240 → Rz h E i d (i + (tksI its).length) Q
theorem Rds.low {h k : Nat} {its : List It} {Q : List Nd} {ht : Nat} (q : Rds h its Q ht) (hk : k ≤ h) : Rds k its Q ht := fun E i d h1 h2 h3 h4 => (q E i d h1 h2 h3 h4).low hk
theorem Rds.high {h : Nat} {its : List It} {Q : List Nd} {ht ht' : Nat} (q : Rds h its Q ht) (hk : ht ≤ ht') : Rds h its Q ht' := fun E i d h1 h2 h3 h4 => q E i d h1 h2 h3 (by omega)
theorem kd_ne {E : PE} {i : Nat} (h : bgn E i = true) : kdA E i ≠ 6 := by have := bgn_kd h; omega
/-- Brackets around. -/
theorem rds_wit {its : List It} {Q ns : List Nd} {ht : Nat} {o c : Tk} (q : Rds 0 its Q ht) (ho : o.kd = 16 ∨ o.kd = 19 ∨ o.kd = 21 ∨ o.kd = 23 ∨ o.kd = 25)
    (hp : ∀ (E : PE) (i : Nat), (tkA E i).kd = o.kd → (tkA E i).tx = o.tx → bgn E (i + 1) = true → primL E i = .inr (c.kd, ns)) (hc : c.kd = 17 ∨ c.kd = 20 ∨ c.kd = 22 ∨ c.kd = 24 ∨ c.kd = 26) (x y : List It) (hx : tksI x = []) (hy : tksI y = []) : Rds 4 ([some o] ++ (x ++ (its ++ (y ++ [some c])))) (Q ++ ns) (ht + 1) := by
  intro E i d htm hoc hne hd
  have et : tksI ([some o] ++ (x ++ (its ++ (y ++ [some c])))) = o :: (tksI its ++ [c]) := by
    rw [tksI_app, tksI_app, tksI_app, tksI_app, hx, hy]; rfl
  rw [et] at hoc hne ⊢
  have k0 := hoc.tk
  have o1 := hoc.next
  have k1 := o1.right.tk
  have h0 := (q E (i + 1) (d + 1) htm o1.left (by rw [k1.2.1]; omega) (by omega)).s0
  have hb : bgn E i = true := by
    unfold bgn bgK
    rw [k0.2.1]
    rcases ho with z | z | z | z | z <;> rw [z] <;> rfl
  refine Rz.of3 ?_ (by omega)
  have := S3.wit hb (by rw [k0.2.1]; omega) (hp E i k0.2.2.1 k0.2.2.2.2.1 h0.b) (by omega) h0 k1.2.1 hc
  rw [List.length_cons, List.length_append, List.length_singleton]
  rw [show i + ((tksI its).length + 1 + 1) = i + 1 + (tksI its).length + 1 from by omega]
  exact this
theorem rds_part {x : Ent} {Q : List Nd} {ht k : Nat} (q : Rds x.1 x.2 Q ht) (hk : k ≤ 3) : Rds k (partI k x) Q (ht + 1) := by
  unfold partI
  by_cases hl : x.1 < k
  · rw [if_pos hl]
    have := rds_wit (ns := []) (q.low (Nat.zero_le _)) (o := ⟨16, 0, 0, 0, ⟨#[]⟩, 0, 0, 0, 0⟩) (c := ⟨17, 0, 0, 0, ⟨#[]⟩, 0, 0, 0, 0⟩) (.inl rfl) (fun E i h1 _ _ => by
      unfold primL primK
      rw [h1]
      rfl) (.inl rfl) [] [] rfl rfl
    rw [List.append_nil] at this
    exact this.low (by omega)
  · rw [if_neg hl]
    exact (q.low (by omega)).high (by omega)
/-- A sign behind, of one token. -/
theorem rds_suf {its : List It} {Q : List Nd} {ht : Nat} {t : Tk} {n : Nd} (q : Rds 3 its Q ht) (hk : t.kd ≠ 6) (hp : ∀ (E : PE) (i : Nat), kdA E i = t.kd → (tkA E i).nn = t.nn → sufN E i = .inl (n, 1)) : Rds 3 (its ++ [some t]) (Q ++ [n]) ht := by
  intro E i d htm hoc hne hd
  have et : tksI (its ++ [some t]) = tksI its ++ [t] := by rw [tksI_app]; rfl
  rw [et] at hoc hne ⊢
  have k1 := hoc.right.tk
  have h0 := (q E i d htm hoc.left (by rw [k1.2.1]; exact hk) hd).s3 (by omega)
  rw [List.length_append, List.length_singleton, ← Nat.add_assoc]
  exact Rz.of3 (h0.suf (hp E _ k1.2.1 k1.2.2.2.1)) (by omega)
/-- A sign behind, of two tokens. -/
theorem rds_suf2 {its : List It} {Q : List Nd} {ht : Nat} {t : Tk} {n : Nd} (q : Rds 3 its Q ht) (hp : ∀ (E : PE) (i : Nat), E.tm = T.tmB → kdA E i = 27 → kdA E (i + 1) = t.kd → (tkA E (i + 1)).tx = t.tx → (tkA E (i + 1)).nn = t.nn → sufN E i = .inl (n, 2)) : Rds 3 (its ++ [none, sgI 27, none, some t]) (Q ++ [n]) ht := by
  intro E i d htm hoc hne hd
  have et : tksI (its ++ [none, sgI 27, none, some t]) = tksI its ++ [⟨27, 0, 0, 0, ⟨#[]⟩, 0, 0, 0, 0⟩, t] := by rw [tksI_app]; rfl
  rw [et] at hoc hne ⊢
  have k1 := hoc.right.tk
  have k2 := hoc.right.next.tk
  have h0 := (q E i d htm hoc.left (by rw [k1.2.1]; decide) hd).s3 (by omega)
  rw [List.length_append, List.length_cons, List.length_singleton, ← Nat.add_assoc]
  exact Rz.of3 (h0.suf (hp E _ htm k1.2.1 k2.2.1 k2.2.2.2.2.1 k2.2.2.2.1)) (by omega)
/-- A sign ahead. -/
theorem rds_pre {its : List It} {Q : List Nd} {ht : Nat} {k : Int} (q : Rds 2 its Q ht) (hk : k = 8 ∨ k = 9) : Rds 2 ([sgI k] ++ its) (Q ++ [nd0 (if k = 8 then 12 else 13)]) (ht + 1) := by
  intro E i d htm hoc hne hd
  have et : tksI ([sgI k] ++ its) = ⟨k, 0, 0, 0, ⟨#[]⟩, 0, 0, 0, 0⟩ :: tksI its := by rw [tksI_app]; rfl
  rw [et] at hoc hne ⊢
  have k1 := hoc.tk
  rw [List.length_cons, show i + ((tksI its).length + 1) = i + 1 + (tksI its).length from by omega] at hne ⊢
  have h0 := (q E (i + 1) (d + 1) htm hoc.next hne (by omega)).s2 (by omega)
  have hk2 : kdA E i = k := k1.2.1
  have := S2.pre (by rw [hk2]; exact hk) (by omega) h0
  rw [hk2] at this
  exact this
theorem rds_seq {a b : List It} {Q R : List Nd} {ht : Nat} (q : Rds 1 a Q ht) (r : Rds 2 b R ht) : Rds 1 (a ++ ([none] ++ b)) (Q ++ R ++ [nd0 7]) ht := by
  intro E i d htm hoc hne hd
  have et : tksI (a ++ ([none] ++ b)) = tksI a ++ tksI b := by rw [tksI_app, tksI_app]; rfl
  rw [et] at hoc hne ⊢
  rw [List.length_append, ← Nat.add_assoc] at hne ⊢
  have h2 := (r E _ d htm hoc.right hne hd).s2 (by omega)
  have h1 := (q E i d htm hoc.left (kd_ne h2.b) hd).s1 (by omega)
  exact h1.seq h2
theorem rds_alt {a b : List It} {Q R : List Nd} {ht : Nat} (q : Rds 0 a Q ht) (r : Rds 1 b R ht) : Rds 0 (a ++ ([none, sgI 7, none] ++ b)) (Q ++ R ++ [nd0 8]) ht := by
  intro E i d htm hoc hne hd
  have et : tksI (a ++ ([none, sgI 7, none] ++ b)) = tksI a ++ (⟨7, 0, 0, 0, ⟨#[]⟩, 0, 0, 0, 0⟩ :: tksI b) := by rw [tksI_app, tksI_app]; rfl
  rw [et] at hoc hne ⊢
  rw [List.length_append, List.length_cons, show i + ((tksI a).length + ((tksI b).length + 1)) = i + (tksI a).length + 1 + (tksI b).length from by omega] at hne ⊢
  have k1 := hoc.right.tk
  have h2 := (r E _ d htm hoc.right.next hne hd).s1 (by omega)
  have h1 := (q E i d htm hoc.left (by rw [k1.2.1]; decide) hd).s0
  exact h1.alt k1.2.1 h2
/-- A leaf of one token. -/
theorem rds_leaf {t : Tk} {n : Nd} (hk : bgK t.kd = true ∨ t.kd = 1) (hk2 : t.kd ≠ 8 ∧ t.kd ≠ 9) (hp : ∀ (E : PE) (i : Nat), (tkA E i).kd = t.kd → (tkA E i).tx = t.tx → (tkA E i).s0 = t.s0 → (tkA E i).s1 = t.s1 → (tkA E i).s2 = t.s2 → (tkA E i).s3 = t.s3 → primL E i = .inl ([n], 1)) (ht : Nat) : Rds 4 [some t] [n] ht := by
  intro E i d htm hoc hne hd
  have et : tksI [some t] = [t] := rfl
  rw [et] at hoc hne ⊢
  have k1 := hoc.tk
  have hb : bgn E i = true := by
    unfold bgn
    rw [k1.2.1]
    rcases hk with z | z
    · rw [z]; rfl
    · rw [z]
      have : (kdA E (i + 1) == 6) = false := beq_eq_false_iff_ne.2 hne
      rw [this]
      rfl
  exact Rz.of3 (S3.leaf hb (by rw [k1.2.1]; omega) (hp E i k1.2.2.1 k1.2.2.2.2.1 k1.2.2.2.2.2.1 k1.2.2.2.2.2.2.1 k1.2.2.2.2.2.2.2.1 k1.2.2.2.2.2.2.2.2)) (by omega)
/-- The place. -/
theorem rds_place (ht : Nat) : Rds 4 [sgI 19, sgI 20] [nd0 17] ht := by
  intro E i d htm hoc hne hd
  have et : tksI [sgI 19, sgI 20] = [⟨19, 0, 0, 0, ⟨#[]⟩, 0, 0, 0, 0⟩, ⟨20, 0, 0, 0, ⟨#[]⟩, 0, 0, 0, 0⟩] := rfl
  rw [et] at hoc hne ⊢
  have k1 := hoc.tk
  have k2 := hoc.next.tk
  have hk : kdA E i = 19 := k1.2.1
  have hk3 : (tkA E i).kd = 19 := k1.2.2.1
  have hk4 : kdA E (i + 1) = 20 := k2.2.1
  refine Rz.of3 (S3.leaf (by unfold bgn bgK; rw [hk]; rfl) (by omega) ?_) (by omega)
  unfold primL primK
  rw [hk3, hk4]
  rfl
end Go.Proofs.YtnpifgcgjgddoaaGreatDoor.N
