/- DERIVED. Plain mathematics and walks, laid together (6). -/
import Derived.Test.YtnpifgcgjgddoaaDoorPt05
namespace Go.Proofs.YtnpifgcgjgddoaaDoor
open Go.RowKit
/-- A sign's text, at the front. -/
theorem sig_at {s : ByteArray} {c : Int} (h0 : chr s 0 = c) (h1 : hdB c = false) (h2 : dgB c = false) (h3 : ¬ (c = 39 ∨ c = 34)) (h4 : ¬ c = 91) (h5 : ¬ c = 37) : oneP s 0 = sigP s 0 := by
  unfold oneP
  rw [h0, if_neg (by rw [h1]; decide), if_neg (by rw [h2]; decide), if_neg h3, if_neg h4, if_neg h5]
theorem al_cnt (p : List UInt8) (k : Int) (n : Nat) (h : n ≤ 50) (hp : p = [94] ∧ k = 13 ∨ p = [94, 43] ∧ k = 14 ∨ p = [94, 45] ∧ k = 15) : Aln (tx8 (p ++ dgT 10 n)) k n ⟨#[]⟩ 0 0 0 0 := by
  have hne := dgT_ne 10 n (by omega)
  have hpos : 0 < (dgT 10 n).length := by
    cases hd : dgT 10 n with
    | nil => exact absurd hd hne
    | cons a b => simp
  obtain ⟨d, d1, d2⟩ := dgT_at 10 (by omega) (by omega) n 0 hpos
  have d3 := (hex_hexD ⟨d, by omega⟩).2.2.1 d1
  dsimp only at d3
  rw [← d2] at d3
  have hc : 48 ≤ chL (dgT 10 n) 0 ∧ chL (dgT 10 n) 0 ≤ 57 := by
    unfold dgB at d3
    simpa using d3
  have hsz : (tx8 (p ++ dgT 10 n)).size = p.length + (dgT 10 n).length := by rw [tx_size, List.length_append]
  have hag : Ag (tx8 (dgT 10 n)) 0 (tx8 (p ++ dgT 10 n)) p.length (dgT 10 n).length := by
    have := ag_tx p (dgT 10 n) []
    rwa [List.append_nil] at this
  have hend : dgB (chr (tx8 (p ++ dgT 10 n)) (p.length + (dgT 10 n).length)) = false := by
    rw [chr_out (by rw [hsz]; omega)]; decide
  have hnum := nm_move (b' := 0) (by
    show nmR (tx8 (dgT 10 n)) 0 0 k = .inl ⟨k, n, (0 : Nat), ((dgT 10 n).length : Nat), ⟨#[]⟩, 0, 0, 0, 0⟩
    have hg : gtK k = 50 := by rcases hp with h | h | h <;> (rw [h.2]; rfl)
    unfold nmR
    rw [hg, num10 n 50 (by omega) (by omega), run10 n, Nat.zero_add]) (by have := run10 n; omega) hag hend
  have hfirst := atj p (dgT 10 n) 0
  rcases hp with ⟨rfl, rfl⟩ | ⟨rfl, rfl⟩ | ⟨rfl, rfl⟩
  · have c0 : chr (tx8 ([94] ++ dgT 10 n)) 0 = 94 := by rw [chr_tx]; rfl
    refine ⟨by rw [hsz]; omega, ?_, Beg.of c0 (by omega)⟩
    rw [sig_at c0 (by decide) (by decide) (by decide) (by decide) (by decide)]
    have e : sgAt (tx8 ([94] ++ dgT 10 n)) 0 = (13, [94]) := by
      rw [sgAt_C, c0, Nat.zero_add, show chr (tx8 ([94] ++ dgT 10 n)) 1 = chL (dgT 10 n) 0 from hfirst]
      unfold sgC
      rw [if_neg (by decide), if_pos rfl, if_neg (by omega), if_neg (by omega)]
    unfold sigP
    rw [e]
    rw [if_neg (by decide), if_pos (by decide), hsz]
    exact hnum
  · have c0 : chr (tx8 ([94, 43] ++ dgT 10 n)) 0 = 94 := by rw [chr_tx]; rfl
    have c1 : chr (tx8 ([94, 43] ++ dgT 10 n)) 1 = 43 := by rw [chr_tx]; rfl
    refine ⟨by rw [hsz]; omega, ?_, Beg.of c0 (by omega)⟩
    rw [sig_at c0 (by decide) (by decide) (by decide) (by decide) (by decide)]
    have e : sgAt (tx8 ([94, 43] ++ dgT 10 n)) 0 = (14, [94, 43]) := by rw [sgAt_C, c0, Nat.zero_add, c1]; rfl
    unfold sigP
    rw [e]
    rw [if_neg (by decide), if_pos (by decide), hsz]
    exact hnum
  · have c0 : chr (tx8 ([94, 45] ++ dgT 10 n)) 0 = 94 := by rw [chr_tx]; rfl
    have c1 : chr (tx8 ([94, 45] ++ dgT 10 n)) 1 = 45 := by rw [chr_tx]; rfl
    refine ⟨by rw [hsz]; omega, ?_, Beg.of c0 (by omega)⟩
    rw [sig_at c0 (by decide) (by decide) (by decide) (by decide) (by decide)]
    have e : sgAt (tx8 ([94, 45] ++ dgT 10 n)) 0 = (15, [94, 45]) := by rw [sgAt_C, c0, Nat.zero_add, c1]; rfl
    unfold sigP
    rw [e]
    rw [if_neg (by decide), if_pos (by decide), hsz]
    exact hnum
theorem pt_at {s : ByteArray} {d n : Nat} (h : n ≤ 1114111) (hag : Ag (tx8 (dgT 16 n)) 0 s d (dgT 16 n).length) (he : hxB (chr s (d + (dgT 16 n).length)) = false) : ptP s d = ((n : Int), d + (dgT 16 n).length, true) := by
  have hne := dgT_ne 16 n (by omega)
  have hl := dgT_len 16 (by omega) 5 n (by omega)
  have hpos : 0 < (dgT 16 n).length := by
    cases hd : dgT 16 n with
    | nil => exact absurd hd hne
    | cons a b => simp
  have hr := run_move (by decide) hag (run16 n) he
  have hw : wthR s d 16 (dgT 16 n).length = (n : Int) := by
    rw [wth_move hag _ (Nat.le_refl _)]
    have h := wthR_text 16 (by omega) (by omega) n []
    rw [List.append_nil] at h
    exact h
  unfold ptP
  rw [hr, if_neg (by omega), show d + (dgT 16 n).length - d = (dgT 16 n).length from by omega, hw, decide_eq_true (by omega)]
def rnL (a b : Nat) : List UInt8 := [37, 117, 123] ++ dgT 16 a ++ [45] ++ dgT 16 b ++ [125]
theorem rnT_L (a b : Nat) : rnT a b = tx8 (rnL a b) := by
  unfold rnT rnL txO
  apply ByteArray.ext
  simp
theorem al_pts (a b : Nat) (hab : a ≤ b) (hb : b ≤ 1114111) : Aln (rnT a b) 5 a ⟨#[]⟩ b 0 0 0 := by
  rw [rnT_L]
  have hsz : (tx8 (rnL a b)).size = 3 + (dgT 16 a).length + 1 + (dgT 16 b).length + 1 := by
    rw [tx_size]; unfold rnL; simp only [List.length_append, List.length_cons, List.length_nil]
  have c0 : chr (tx8 (rnL a b)) 0 = 37 := by rw [chr_tx]; rfl
  have c1 : chr (tx8 (rnL a b)) 1 = 117 := by rw [chr_tx]; rfl
  have c2 : chr (tx8 (rnL a b)) 2 = 123 := by rw [chr_tx]; rfl
  have hA : Ag (tx8 (dgT 16 a)) 0 (tx8 (rnL a b)) 3 (dgT 16 a).length := by
    have := ag_tx [37, 117, 123] (dgT 16 a) ([45] ++ dgT 16 b ++ [125])
    rwa [show [37, 117, 123] ++ dgT 16 a ++ ([45] ++ dgT 16 b ++ [125]) = rnL a b from by unfold rnL; simp] at this
  have hB : Ag (tx8 (dgT 16 b)) 0 (tx8 (rnL a b)) (3 + (dgT 16 a).length + 1) (dgT 16 b).length := by
    have := ag_tx ([37, 117, 123] ++ dgT 16 a ++ [45]) (dgT 16 b) [125]
    rwa [show ([37, 117, 123] ++ dgT 16 a ++ [45] : List UInt8).length = 3 + (dgT 16 a).length + 1 from by simp only [List.length_append, List.length_cons, List.length_nil]] at this
  have e1 : chr (tx8 (rnL a b)) (3 + (dgT 16 a).length) = 45 := by
    have := at0 ([37, 117, 123] ++ dgT 16 a) ([45] ++ dgT 16 b ++ [125])
    rw [show ([37, 117, 123] ++ dgT 16 a) ++ ([45] ++ dgT 16 b ++ [125]) = rnL a b from by unfold rnL; simp, show ([37, 117, 123] ++ dgT 16 a : List UInt8).length = 3 + (dgT 16 a).length from by simp only [List.length_append, List.length_cons, List.length_nil]] at this
    exact this
  have e2 : chr (tx8 (rnL a b)) (3 + (dgT 16 a).length + 1 + (dgT 16 b).length) = 125 := by
    have := at0 ([37, 117, 123] ++ dgT 16 a ++ [45] ++ dgT 16 b) [125]
    rw [show ([37, 117, 123] ++ dgT 16 a ++ [45] ++ dgT 16 b : List UInt8).length = 3 + (dgT 16 a).length + 1 + (dgT 16 b).length from by simp only [List.length_append, List.length_cons, List.length_nil]] at this
    exact this
  have p1 := pt_at (by omega) hA (by rw [e1]; decide)
  have p2 := pt_at hb hB (by rw [e2]; decide)
  refine ⟨by rw [hsz]; omega, ?_, Beg.of c0 (by omega)⟩
  unfold oneP
  rw [c0, if_neg (by decide), if_neg (by decide), if_neg (by decide), if_neg (by decide), if_pos rfl]
  unfold pctP
  have hp : pfx (tx8 (rnL a b)) 0 [37, 117, 123] = true := by
    unfold pfx; rw [c0]
    unfold pfx; rw [Nat.zero_add, c1]
    unfold pfx; rw [c2]
    rfl
  rw [if_pos hp]
  unfold ptsP
  rw [Nat.zero_add, p1]
  dsimp only
  rw [if_neg (by decide), if_pos e1, p2]
  dsimp only
  rw [if_neg (by simp; omega), if_pos e2, hsz]
  rfl
theorem al_pct (c : UInt8) (h : (cls c.toNat).2 = 0) : Aln (tx8 [37, c]) 28 0 (tx8 [c]) (wd (cls c.toNat).1 0) (wd (cls c.toNat).1 1) (wd (cls c.toNat).1 2) (wd (cls c.toNat).1 3) := by
  have n1 : c.toNat ≠ 101 := by intro q; rw [q] at h; revert h; decide
  have n2 : c.toNat ≠ 102 := by intro q; rw [q] at h; revert h; decide
  have c0 : chr (tx8 [37, c]) 0 = 37 := by rw [chr_tx]; rfl
  have c1 : chr (tx8 [37, c]) 1 = (c.toNat : Int) := by rw [chr_tx]; rfl
  have c2 : chr (tx8 [37, c]) 2 = -1 := by rw [chr_tx]; rfl
  refine ⟨by show 0 < 2; omega, ?_, Beg.of c0 (by omega)⟩
  unfold oneP
  rw [c0, if_neg (by decide), if_neg (by decide), if_neg (by decide), if_neg (by decide), if_pos rfl]
  unfold pctP
  have hp : pfx (tx8 [37, c]) 0 [37, 117, 123] = false := by
    unfold pfx
    unfold pfx
    unfold pfx
    rw [Nat.zero_add, show (1 : Nat) + 1 = 2 from rfl, c2]
    simp
  have e : sgAt (tx8 [37, c]) 0 = (0, []) := by
    rw [sgAt_C, c0, Nat.zero_add, c1]
    unfold sgC
    rw [if_pos rfl, if_neg (by omega), if_neg (by omega)]
  rw [if_neg (by rw [hp]; decide), e]
  rw [if_neg (by decide), Nat.zero_add, c1, Int.toNat_natCast, if_pos ⟨by show 1 < 2; omega, h⟩]
  congr 2
/-- A group's text. -/
theorem al_grp0 : Aln (tx8 [123, 58]) 21 0 ⟨#[]⟩ 0 0 0 0 := by
  have c0 : chr (tx8 [123, 58]) 0 = 123 := by rw [chr_tx]; rfl
  have c1 : chr (tx8 [123, 58]) 1 = 58 := by rw [chr_tx]; rfl
  have c2 : chr (tx8 [123, 58]) 2 = -1 := by rw [chr_tx]; rfl
  refine ⟨by show 0 < 2; omega, ?_, Beg.of c0 (by omega)⟩
  rw [sig_at c0 (by decide) (by decide) (by decide) (by decide) (by decide)]
  have e : sgAt (tx8 [123, 58]) 0 = (21, [123, 58]) := by rw [sgAt_C, c0, Nat.zero_add, c1]; rfl
  unfold sigP
  rw [e]
  rw [if_neg (by decide), if_neg (by decide), if_pos (by decide)]
  show grpP (tx8 [123, 58]) 0 2 = _
  unfold grpP
  rw [c2, if_neg (by decide)]
  rfl
theorem al_grp {s : ByteArray} (h : isNm s = true) : Aln (⟨#[123, 58]⟩ ++ (s ++ ⟨#[58]⟩)) 21 0 s 0 0 0 0 := by
  unfold isNm at h
  simp only [Bool.and_eq_true, decide_eq_true_eq, beq_iff_eq] at h
  obtain ⟨⟨⟨h1, h2⟩, h3⟩, h4⟩ := h
  obtain ⟨l, rfl⟩ : ∃ l : List UInt8, s = tx8 l := ⟨s.data.toList, by apply ByteArray.ext; simp⟩
  have hX : (⟨#[123, 58]⟩ ++ (tx8 l ++ ⟨#[58]⟩) : ByteArray) = tx8 ([123, 58] ++ l ++ [58]) := by apply ByteArray.ext; simp
  rw [hX]
  rw [tx_size] at h1 h2 h4
  have hag := ag_tx [123, 58] l [58]
  have c0 : chr (tx8 ([123, 58] ++ l ++ [58])) 0 = 123 := by rw [chr_tx]; rfl
  have c1 : chr (tx8 ([123, 58] ++ l ++ [58])) 1 = 58 := by rw [chr_tx]; rfl
  have c2 : chr (tx8 ([123, 58] ++ l ++ [58])) 2 = chr (tx8 l) 0 := hag 0 h1
  have ce : chr (tx8 ([123, 58] ++ l ++ [58])) (2 + l.length) = 58 := by
    have := at0 ([123, 58] ++ l) [58]
    rw [show ([123, 58] ++ l : List UInt8).length = 2 + l.length from by simp only [List.length_append, List.length_cons, List.length_nil]] at this
    exact this
  have hr : spN nmB (tx8 ([123, 58] ++ l ++ [58])) 2 = 2 + l.length := run_move (by decide) hag (by rw [h4, Nat.zero_add]) (by show nmB (chr _ (2 + l.length)) = false; rw [ce]; decide)
  have hsz : (tx8 ([123, 58] ++ l ++ [58])).size = 2 + l.length + 1 := by rw [tx_size]; simp only [List.length_append, List.length_cons, List.length_nil]
  refine ⟨by rw [hsz]; omega, ?_, Beg.of c0 (by omega)⟩
  rw [sig_at c0 (by decide) (by decide) (by decide) (by decide) (by decide)]
  have e : sgAt (tx8 ([123, 58] ++ l ++ [58])) 0 = (21, [123, 58]) := by rw [sgAt_C, c0, Nat.zero_add, c1]; rfl
  unfold sigP
  rw [e]
  rw [if_neg (by decide), if_neg (by decide), if_pos (by decide)]
  show grpP _ 0 2 = _
  unfold grpP
  rw [c2, if_pos h3, hr, if_neg (by omega), if_pos ce, hsz]
  have hx : (tx8 ([123, 58] ++ l ++ [58])).extract 2 (2 + l.length) = tx8 l := by
    apply ByteArray.ext
    simp [ByteArray.data_extract]
  rw [hx]
  rfl
/-- A literal's text. -/
theorem al_lit (s : ByteArray) (h : s.size ≤ 255) : Aln (Q.asText (Q.qT s)) 2 0 s 0 0 0 0 := by
  have hq : (Q.qT s).length ≤ 4 * s.size + 2 := by
    have h := (Q.qTo_len s s.size).1
    rw [← Q.qTo_all s s.size (Nat.le_refl _), List.length_append, List.length_singleton]
    omega
  have hsz : (Q.asText (Q.qT s)).size = (Q.qT s).length := Q.asText_size _
  have c0 : chr (Q.asText (Q.qT s)) 0 = 39 := by
    rw [← q_chr, Q.chr_text (Q.qT_by s)]
    rfl
  have hpos : 0 < (Q.asText (Q.qT s)).size := chr_lt (by rw [c0]; omega)
  have hr := Q.cut_reads s (by omega)
  have hl := lit_same (Q.asText (Q.qT s)) 0 (by omega) (by omega) (.inl c0)
  refine ⟨hpos, ?_, Beg.of c0 (by omega)⟩
  unfold oneP
  rw [c0, if_neg (by decide), if_neg (by decide), if_pos (by decide), ← hl]
  rw [show (((0 : Nat) : Int)) = 0 from rfl, hr]
  unfold litP
  dsimp only
  rw [if_neg (by rw [Q.byl_len]; omega), hsz, ← q_text, Q.asText_byl]
  rfl
/-- A class's text. -/
theorem al_cls (x : BitVec 256) : Aln (tx8 (shT x)) 3 0 ⟨#[]⟩ (wd x 0) (wd x 1) (wd x 2) (wd x 3) := by
  have hr := back_read x
  have c0 : chr (tx8 (shT x)) 0 = 91 := by
    rw [chr_tx]
    unfold shT
    split <;> rfl
  refine ⟨chr_lt (by rw [c0]; omega), ?_, Beg.of c0 (by omega)⟩
  unfold oneP
  rw [c0, if_neg (by decide), if_neg (by decide), if_neg (by decide), if_pos rfl]
  rw [show (((0 : Nat) : Int)) = 0 from rfl, hr]
  rfl
/-- The signs' texts. -/
def isOne (r : Sum Tk (Nat × Int)) (k : Int) (n : Nat) : Bool := match r with
  | .inl t => t.kd == k && t.nn == 0 && t.fr == 0 && t.en == (n : Int) && t.tx.data.toList == [] && t.s0 == 0 && t.s1 == 0 && t.s2 == 0 && t.s3 == 0
  | .inr _ => false
theorem isOne_eq {r : Sum Tk (Nat × Int)} {k : Int} {n : Nat} (h : isOne r k n = true) : r = .inl ⟨k, 0, 0, (n : Int), ⟨#[]⟩, 0, 0, 0, 0⟩ := by
  cases r with
  | inr q => cases h
  | inl t =>
    obtain ⟨a0, a1, a2, a3, a4, a5, a6, a7, a8⟩ := t
    simp only [isOne, Bool.and_eq_true, beq_iff_eq] at h
    obtain ⟨⟨⟨⟨⟨⟨⟨⟨h0, h1⟩, h2⟩, h3⟩, h4⟩, h5⟩, h6⟩, h7⟩, h8⟩ := h
    have h4 : a4 = ⟨#[]⟩ := by apply ByteArray.ext; simpa using h4
    subst h0 h1 h2 h3 h4 h5 h6 h7 h8
    rfl
def sgX (k : Nat) : List UInt8 := if k = 29 then [37, 101] else if k = 30 then [37, 102] else sgn k
def begB (l : List UInt8) : Bool := decide (0 < l.length) && !(chL l 0 == 9) && !(chL l 0 == 10) && !(chL l 0 == 13) && !(chL l 0 == 32) && !(chL l 0 == 45 && chL l 1 == 45)
theorem sg_all : ∀ k, k < 31 → (1 ≤ k ∧ k ≠ 1 ∧ k ≠ 21 ∧ k ≠ 2 ∧ k ≠ 3 ∧ k ≠ 28 ∧ k ≠ 5 ∧ k ≠ 4 ∧ k ≠ 13 ∧ k ≠ 14 ∧ k ≠ 15) → (isOne (oneP (tx8 (sgX k)) 0) k (sgX k).length && begB (sgX k)) = true := by decide +kernel
theorem al_sig (k : Nat) (h1 : k < 31) (h2 : 1 ≤ k ∧ k ≠ 1 ∧ k ≠ 21 ∧ k ≠ 2 ∧ k ≠ 3 ∧ k ≠ 28 ∧ k ≠ 5 ∧ k ≠ 4 ∧ k ≠ 13 ∧ k ≠ 14 ∧ k ≠ 15) : Aln (tx8 (sgX k)) k 0 ⟨#[]⟩ 0 0 0 0 := by
  have h := sg_all k h1 h2
  obtain ⟨h3, h4⟩ := Bool.and_eq_true_iff.1 h
  simp only [begB, Bool.and_eq_true, decide_eq_true_eq, Bool.not_eq_true', beq_eq_false_iff_ne, Bool.and_eq_false_iff] at h4
  obtain ⟨⟨⟨⟨⟨g0, g1⟩, g2⟩, g3⟩, g4⟩, g5⟩ := h4
  refine ⟨g0, isOne_eq h3, ⟨?_, ?_⟩⟩
  · rw [chr_tx]; omega
  · rw [chr_tx, chr_tx]; omega
end Go.Proofs.YtnpifgcgjgddoaaDoor

namespace Go.Proofs.YtnpifgcgjgddoaaDoor
open Go.RowKit
theorem emp_eq {s : ByteArray} (h : (s.toList == []) = true) : s = ⟨#[]⟩ := emp_of (by have := emp_size h; omega)
theorem seF_zero {k s0 s1 s2 s3 : Int} {s : ByteArray} (n3 : ¬ k = 3) (n28 : ¬ k = 28) (n5 : ¬ k = 5) (h : seF k s s0 s1 s2 s3 = true) : s0 = 0 ∧ s1 = 0 ∧ s2 = 0 ∧ s3 = 0 := by
  unfold seF at h
  rw [if_neg n3, if_neg n28, if_neg n5] at h
  simpa using h
theorem txF_zero {k : Int} {s : ByteArray} (n1 : ¬ k = 1) (n21 : ¬ k = 21) (n2 : ¬ k = 2) (n28 : ¬ k = 28) (h : txF k s = true) : s = ⟨#[]⟩ := by
  unfold txF at h
  rw [if_neg n1, if_neg n21, if_neg n2, if_neg n28] at h
  exact emp_eq h
theorem aln_of {t : Tk} (hr : riF t = true) (hb : TkB t) : Aln (tkX t) t.kd t.nn t.tx t.s0 t.s1 t.s2 t.s3 := by
  obtain ⟨h1, h2, h3, h4, h5, h6⟩ := ri_nat hr
  have hs := txF_len h3
  have u0 := hb.u0
  have u1 := hb.u1
  have u2 := hb.u2
  have u3 := hb.u3
  have u4 := hb.u4
  obtain ⟨kd, nn, fr, en, tx, s0, s1, s2, s3⟩ := t
  unfold tkX
  dsimp only at *
  clear hr hb
  by_cases n1 : kd = 1
  · subst n1
    obtain ⟨rfl, rfl, rfl, rfl⟩ := seF_zero (by omega) (by omega) (by omega) h6
    obtain rfl : nn = 0 := by rw [if_neg (by omega)] at h5; have : gtK 1 = 0 := rfl; omega
    rw [if_pos rfl]
    exact al_name h3
  rw [if_neg n1]
  by_cases n21 : kd = 21
  · subst n21
    obtain ⟨rfl, rfl, rfl, rfl⟩ := seF_zero (by omega) (by omega) (by omega) h6
    obtain rfl : nn = 0 := by rw [if_neg (by omega)] at h5; have : gtK 21 = 0 := rfl; omega
    rw [if_pos rfl]
    unfold txF at h3
    rw [if_neg (by omega), if_pos rfl] at h3
    rcases Bool.or_eq_true_iff.1 h3 with h | h
    · obtain rfl := emp_eq h
      exact al_grp0
    · have := (isNm_len h).1
      unfold gnm
      rw [if_neg (by omega)]
      exact al_grp h
  rw [if_neg n21]
  by_cases n2 : kd = 2
  · subst n2
    obtain ⟨rfl, rfl, rfl, rfl⟩ := seF_zero (by omega) (by omega) (by omega) h6
    obtain rfl : nn = 0 := by rw [if_neg (by omega)] at h5; have : gtK 2 = 0 := rfl; omega
    rw [if_pos rfl]
    exact al_lit tx hs
  rw [if_neg n2]
  by_cases n3 : kd = 3
  · subst n3
    obtain rfl := txF_zero (by omega) (by omega) (by omega) (by omega) h3
    obtain rfl : nn = 0 := by rw [if_neg (by omega)] at h5; have : gtK 3 = 0 := rfl; omega
    rw [if_pos rfl]
    obtain ⟨x0, x1, x2, x3⟩ := mkS_wd s0 s1 s2 s3 ⟨u0, u1⟩ u2 u3 u4
    have h := al_cls (mkS s0 s1 s2 s3)
    rw [x0, x1, x2, x3] at h
    exact h
  rw [if_neg n3]
  by_cases n28 : kd = 28
  · subst n28
    obtain rfl : nn = 0 := by rw [if_neg (by omega)] at h5; have : gtK 28 = 0 := rfl; omega
    rw [if_pos rfl]
    have hsz : tx.size = 1 := by
      unfold txF at h3
      rw [if_neg (by omega), if_neg (by omega), if_neg (by omega), if_pos rfl] at h3
      have := of_decide_eq_true h3
      omega
    obtain ⟨c, rfl⟩ : ∃ c, tx = tx8 [c] := by
      obtain ⟨⟨l⟩⟩ := tx
      match l, hsz with
      | [c], _ => exact ⟨c, rfl⟩
    have hc : chr (tx8 [c]) 0 = (c.toNat : Int) := by rw [chr_tx]; rfl
    unfold seF at h6
    rw [if_neg (by omega), if_pos rfl, hc, Int.toNat_natCast] at h6
    simp only [Bool.and_eq_true, beq_iff_eq] at h6
    obtain ⟨q, rfl, rfl, rfl, rfl⟩ := h6
    exact al_pct c q
  rw [if_neg n28]
  obtain rfl := txF_zero n1 n21 n2 n28 h3
  by_cases n5 : kd = 5
  · subst n5
    have h7 := set5_le rfl h6
    rw [if_pos rfl] at h5 ⊢
    unfold seF at h6
    rw [if_neg (by omega), if_neg (by omega), if_pos rfl] at h6
    simp only [Bool.and_eq_true, beq_iff_eq] at h6
    obtain ⟨_, _, rfl, rfl, rfl⟩ := h6
    have h := al_pts nn.toNat s0.toNat (by omega) (by omega)
    rw [show ((nn.toNat : Nat) : Int) = nn from by omega, show ((s0.toNat : Nat) : Int) = s0 from by omega] at h
    exact h
  rw [if_neg n5] at h5 ⊢
  obtain ⟨rfl, rfl, rfl, rfl⟩ := seF_zero n3 n28 n5 h6
  by_cases n4 : kd = 4
  · subst n4
    rw [if_pos rfl]
    have hg : gtK 4 = 999999 := rfl
    have h := al_num nn.toNat (by omega)
    rw [show ((nn.toNat : Nat) : Int) = nn from by omega] at h
    exact h
  rw [if_neg n4]
  by_cases n13 : kd = 13
  · subst n13
    rw [if_pos rfl]
    have hg : gtK 13 = 50 := rfl
    have h := al_cnt [94] 13 nn.toNat (by omega) (.inl ⟨rfl, rfl⟩)
    rw [show ((nn.toNat : Nat) : Int) = nn from by omega] at h
    rw [show (⟨#[94]⟩ ++ txO (dgT 10 nn.toNat) : ByteArray) = tx8 ([94] ++ dgT 10 nn.toNat) from by unfold txO; apply ByteArray.ext; simp]
    exact h
  rw [if_neg n13]
  by_cases n14 : kd = 14
  · subst n14
    rw [if_pos rfl]
    have hg : gtK 14 = 50 := rfl
    have h := al_cnt [94, 43] 14 nn.toNat (by omega) (.inr (.inl ⟨rfl, rfl⟩))
    rw [show ((nn.toNat : Nat) : Int) = nn from by omega] at h
    rw [show (⟨#[94, 43]⟩ ++ txO (dgT 10 nn.toNat) : ByteArray) = tx8 ([94, 43] ++ dgT 10 nn.toNat) from by unfold txO; apply ByteArray.ext; simp]
    exact h
  rw [if_neg n14]
  by_cases n15 : kd = 15
  · subst n15
    rw [if_pos rfl]
    have hg : gtK 15 = 50 := rfl
    have h := al_cnt [94, 45] 15 nn.toNat (by omega) (.inr (.inr ⟨rfl, rfl⟩))
    rw [show ((nn.toNat : Nat) : Int) = nn from by omega] at h
    rw [show (⟨#[94, 45]⟩ ++ txO (dgT 10 nn.toNat) : ByteArray) = tx8 ([94, 45] ++ dgT 10 nn.toNat) from by unfold txO; apply ByteArray.ext; simp]
    exact h
  rw [if_neg n15]
  have hg : gtK kd = 0 := by unfold gtK; rw [if_neg n4, if_neg (by omega)]
  obtain rfl : nn = 0 := by omega
  have h := al_sig kd.toNat (by omega) ⟨by omega, by omega, by omega, by omega, by omega, by omega, by omega, by omega, by omega, by omega, by omega⟩
  rw [show ((kd.toNat : Nat) : Int) = kd from by omega] at h
  by_cases n29 : kd = 29
  · subst n29; rw [if_pos rfl]; exact h
  rw [if_neg n29]
  by_cases n30 : kd = 30
  · subst n30; rw [if_pos rfl]; exact h
  rw [if_neg n30]
  unfold sgX at h
  rw [if_neg (by omega), if_neg (by omega)] at h
  exact h
/-- Where a right token's text stands, with a blank or nothing behind it, the token is read. -/
theorem tok_there {t : Tk} (hr : riF t = true) (hb : TkB t) {s : ByteArray} {b : Nat} (ha : Ag (tkX t) 0 s b (tkX t).size) (he : stopB (chr s (b + (tkX t).size)) = true) : 0 < (tkX t).size ∧ gapN s b = b ∧ b < s.size ∧ b + (tkX t).size ≤ s.size ∧ oneP s b = .inl (mvT t b (tkX t).size) := by
  have h := aln_of hr hb
  have h1 := start_move h.p h.b.b h.b.c h.o (m := (tkX t).size) (by show ((tkX t).size : Int) = ((0 + (tkX t).size : Nat) : Int); omega) ha
  have h2 := tok_move h.p h.o (m := (tkX t).size) (by show ((tkX t).size : Int) = ((0 + (tkX t).size : Nat) : Int); omega) ha (.inl he)
  exact ⟨h.p, h1.1, h1.2, ha.in h.p (by omega), h2⟩
end Go.Proofs.YtnpifgcgjgddoaaDoor

namespace Go.Proofs.YtnpifgcgjgddoaaDoor
open Go.RowKit
/-- Right, and of the sizes that a machine holds. -/
structure Rgt (t : Tk) : Prop where
  r : riF t = true
  b : TkB t
theorem Rgt.plain {k n a e : Int} {tx : ByteArray} (h : riF ⟨k, n, a, e, tx, 0, 0, 0, 0⟩ = true) (hn : n ≤ 1114111) : Rgt ⟨k, n, a, e, tx, 0, 0, 0, 0⟩ := ⟨h, ⟨by show n < _; omega, by show (0 : Int) ≤ 0; omega, by show (0 : Int) < _; omega, by show (0 : Int) ≤ 0 ∧ (0 : Int) < _; omega, by show (0 : Int) ≤ 0 ∧ (0 : Int) < _; omega, by show (0 : Int) ≤ 0 ∧ (0 : Int) < _; omega⟩⟩
theorem ri_name {a e : Int} {s : ByteArray} (h : isNm s = true) : riF ⟨1, 0, a, e, s, 0, 0, 0, 0⟩ = true := by
  unfold riF txF nbF seF gtK
  simp [h]
theorem ri_grp {a e : Int} {s : ByteArray} (h : isNm s = true) : riF ⟨21, 0, a, e, s, 0, 0, 0, 0⟩ = true := by
  unfold riF txF nbF seF gtK
  simp [h]
theorem ri_grp0 {a e : Int} : riF ⟨21, 0, a, e, ⟨#[]⟩, 0, 0, 0, 0⟩ = true := by
  have em : ((⟨#[]⟩ : ByteArray).toList == []) = true := by rw [ByteArray.toList_eq]; rfl
  unfold riF txF nbF seF gtK
  simp []
def sgK (k : Int) : Bool := k == 0 || k == 13 || k == 14 || k == 15 || k == 21 || k == 29 || k == 30 || k == 27 || (decide (6 ≤ k) && decide (k ≤ 12)) || (decide (16 ≤ k) && decide (k ≤ 20)) || (decide (22 ≤ k) && decide (k ≤ 26))
theorem ri_sig {k a e : Int} (h : sgK k = true) (h0 : ¬ k = 0) (h1 : ¬ (k = 13 ∨ k = 14 ∨ k = 15)) (h2 : ¬ k = 21) : riF ⟨k, 0, a, e, ⟨#[]⟩, 0, 0, 0, 0⟩ = true := by
  have em : ((⟨#[]⟩ : ByteArray).toList == []) = true := by rw [ByteArray.toList_eq]; rfl
  simp only [sgK, Bool.or_eq_true, Bool.and_eq_true, beq_iff_eq, decide_eq_true_eq] at h
  unfold riF txF nbF seF gtK
  dsimp only
  rw [if_neg (show ¬ k = 1 by omega), if_neg (show ¬ k = 21 by omega), if_neg (show ¬ k = 2 by omega), if_neg (show ¬ k = 28 by omega), if_neg (show ¬ k = 5 by omega), if_neg (show ¬ k = 4 by omega), if_neg h1, if_neg (show ¬ k = 3 by omega), if_neg (show ¬ k = 28 by omega), if_neg (show ¬ k = 5 by omega), em, decide_eq_true (show 1 ≤ k by omega), decide_eq_true (show k ≤ 30 by omega)]
  rfl
end Go.Proofs.YtnpifgcgjgddoaaDoor

namespace Go.Proofs.YtnpifgcgjgddoaaDoor.N
open Go.RowKit
theorem ck_len {L : List Nd} (h : (T.ck L).2 = 0) : L.length ≤ 2048 := by
  unfold T.ck at h
  by_cases q : 2048 < L.length
  · rw [if_pos q] at h; exact absurd h (by decide)
  · omega
end Go.Proofs.YtnpifgcgjgddoaaDoor.N

namespace Go.Proofs.YtnpifgcgjgddoaaDoor.N
open Go.RowKit
theorem ar_ops {n : Nd} (h : T.alE n = 0) : (T.arN n.op = 0 ∧ (n.op = 1 ∨ n.op = 2 ∨ n.op = 3 ∨ n.op = 4 ∨ n.op = 5 ∨ n.op = 6 ∨ n.op = 17)) ∨ (T.arN n.op = 2 ∧ (n.op = 7 ∨ n.op = 8)) ∨ (T.arN n.op = 1 ∧ (n.op = 9 ∨ n.op = 10 ∨ n.op = 11 ∨ n.op = 12 ∨ n.op = 13 ∨ n.op = 14 ∨ n.op = 15 ∨ n.op = 16 ∨ n.op = 18 ∨ n.op = 19 ∨ n.op = 20 ∨ n.op = 21 ∨ n.op = 22 ∨ n.op = 23)) := by
  have hr := op_rng h
  unfold T.arN T.ar
  rw [if_neg (by omega)]
  by_cases h1 : n.op ≤ 6 ∨ n.op = 17
  · rw [if_pos h1]; exact .inl ⟨rfl, by omega⟩
  · rw [if_neg h1]
    by_cases h2 : n.op = 7 ∨ n.op = 8
    · rw [if_pos h2]; exact .inr (.inl ⟨rfl, h2⟩)
    · rw [if_neg h2]; exact .inr (.inr ⟨rfl, by omega⟩)
/-- One node more on the stack of texts. -/
def e0 : Ent := (4, [])
def stepI (n : Nd) (st : List Ent) : List Ent := (hld n.op, nodeI n (if T.arN n.op = 2 then (st[1]?).getD e0 else (st[0]?).getD e0) ((st[0]?).getD e0)) :: st.drop (T.arN n.op)
def shK (L : List Nd) : Nat → List Ent
  | 0 => []
  | k + 1 => match L[k]? with
    | some n => stepI n (shK L k)
    | none => shK L k
/-- The items of a whole pattern. -/
def shI (L : List Nd) : List It := ((shK L L.length)[0]?.getD e0).2
theorem shK_succ {L : List Nd} {k : Nat} {n : Nd} (h : L[k]? = some n) : shK L (k + 1) = stepI n (shK L k) := by
  rw [shK, h]
end Go.Proofs.YtnpifgcgjgddoaaDoor.N

namespace Go.Proofs.YtnpifgcgjgddoaaDoor.N
open Go.RowKit
def itX (x : It) : List UInt8 := match x with
  | none => [32]
  | some t => (tkX t).data.toList
def itT (l : List It) : List UInt8 := l.flatMap itX
theorem itT_app (a b : List It) : itT (a ++ b) = itT a ++ itT b := List.flatMap_append
theorem itT_cons (x : It) (l : List It) : itT (x :: l) = itX x ++ itT l := rfl
/-- May one token's text stand right behind another one's? -/
def pqK (a b : Int) : Bool := a == 16 || a == 8 || a == 9 || (a == 19 && !(b == 22) && !(b == 24) && !(b == 26)) || b == 17 || b == 20 || (decide (10 ≤ b) && decide (b ≤ 15))
def okI : List It → Prop
  | [] => True
  | none :: r => okI r
  | some t :: r => (∀ u, r.head? = some (some u) → pqK t.kd u.kd = true) ∧ okI r
theorem okI_app {a b : List It} (ha : okI a) (hb : okI b) (hj : ∀ t u, a.getLast? = some (some t) → b.head? = some (some u) → pqK t.kd u.kd = true) : okI (a ++ b) := by
  induction a with
  | nil => exact hb
  | cons x r ih =>
    have hj2 : ∀ t u, r.getLast? = some (some t) → b.head? = some (some u) → pqK t.kd u.kd = true := fun t u h1 h2 => hj t u (by rw [List.getLast?_cons, h1]; rfl) h2
    cases x with
    | none => exact ih ha hj2
    | some t =>
      refine ⟨fun u hu => ?_, ih ha.2 hj2⟩
      cases r with
      | nil => exact hj t u rfl hu
      | cons y r => exact ha.1 u hu
end Go.Proofs.YtnpifgcgjgddoaaDoor.N

namespace Go.Proofs.YtnpifgcgjgddoaaDoor.N
open Go.RowKit
def hdK (k : Int) : Bool := bgK k || k == 1
/-- A text that may stand as a part. -/
structure ShE (x : List It) : Prop where
  ok : okI x
  hd : ∃ t, x.head? = some (some t) ∧ hdK t.kd = true
  ls : ∃ t, x.getLast? = some (some t)
  rt : ∀ t ∈ tksI x, Rgt t
/-- The words of a node's set are words. -/
structure NdW (n : Nd) : Prop where
  a : 0 ≤ n.s0 ∧ n.s0 < 18446744073709551616
  b : 0 ≤ n.s1 ∧ n.s1 < 18446744073709551616
  c : 0 ≤ n.s2 ∧ n.s2 < 18446744073709551616
  d : 0 ≤ n.s3 ∧ n.s3 < 18446744073709551616
theorem mem_tks {t : Tk} {l : List It} : t ∈ tksI l ↔ some t ∈ l := by
  unfold tksI
  rw [List.mem_filterMap]
  exact ⟨fun ⟨x, h1, h2⟩ => by rw [show x = some t from h2] at h1; exact h1, fun h => ⟨some t, h, rfl⟩⟩
theorem rg_sg {k : Int} (h : sgK k = true) (h0 : ¬ k = 0) (h1 : ¬ (k = 13 ∨ k = 14 ∨ k = 15)) (h2 : ¬ k = 21) : Rgt ⟨k, 0, 0, 0, ⟨#[]⟩, 0, 0, 0, 0⟩ := Rgt.plain (ri_sig h h0 h1 h2) (by omega)
theorem rg_name {s : ByteArray} (h : isNm s = true) : Rgt ⟨1, 0, 0, 0, s, 0, 0, 0, 0⟩ := Rgt.plain (ri_name h) (by omega)
theorem rg_grp {s : ByteArray} (h : s = ⟨#[]⟩ ∨ isNm s = true) : Rgt ⟨21, 0, 0, 0, s, 0, 0, 0, 0⟩ := by
  rcases h with rfl | h
  · exact Rgt.plain ri_grp0 (by omega)
  · exact Rgt.plain (ri_grp h) (by omega)
theorem rg_text {s : ByteArray} (h : s.size ≤ 255) : Rgt ⟨2, 0, 0, 0, s, 0, 0, 0, 0⟩ := by
  refine Rgt.plain ?_ (by omega)
  unfold riF txF nbF seF gtK
  simp
  omega
theorem rg_set {a b c d : Int} (ha : 0 ≤ a ∧ a < 18446744073709551616) (hb : 0 ≤ b ∧ b < 18446744073709551616) (hc : 0 ≤ c ∧ c < 18446744073709551616) (hd : 0 ≤ d ∧ d < 18446744073709551616) : Rgt ⟨3, 0, 0, 0, ⟨#[]⟩, a, b, c, d⟩ := by
  refine ⟨?_, ⟨by show (0 : Int) < _; omega, ha.1, ha.2, hb, hc, hd⟩⟩
  have em : ((⟨#[]⟩ : ByteArray).toList == []) = true := by rw [ByteArray.toList_eq]; rfl
  unfold riF txF nbF seF gtK
  simp []
theorem rg_num {k n : Int} (hk : k = 4 ∨ k = 13 ∨ k = 14 ∨ k = 15) (h0 : 0 ≤ n) (h1 : n ≤ 50) : Rgt ⟨k, n, 0, 0, ⟨#[]⟩, 0, 0, 0, 0⟩ := by
  refine Rgt.plain ?_ (by omega)
  have em : ((⟨#[]⟩ : ByteArray).toList == []) = true := by rw [ByteArray.toList_eq]; rfl
  unfold riF txF nbF seF gtK
  rcases hk with rfl | rfl | rfl | rfl <;> simp [] <;> omega
theorem nm_of {s : ByteArray} (h : T.nmB s = true) : isNm s = true := by
  have h : T.NmP s := by unfold T.nmB at h; exact @of_decide_eq_true _ (T.decNm _) h
  obtain ⟨h1, h2, h3, h4⟩ := h
  have hc : ∀ (j : Nat) (q : j < s.size), chr s j = (s[j].toNat : Int) := fun j q => chr_in q
  have hn : ∀ j, j < s.size → nmB (chr s j) = true := fun j q => by
    have := h4 j q
    rw [← hc j q] at this
    unfold T.nmC T.dgB T.ltB at this
    unfold nmB hdB dgB
    simp only [Bool.or_eq_true, Bool.and_eq_true, decide_eq_true_eq, beq_iff_eq] at this ⊢
    omega
  have hh : hdB (chr s 0) = true := by
    have a := h4 0 h1
    have b := h3 h1
    rw [← hc 0 h1] at a b
    unfold T.nmC T.ltB at a
    rw [b] at a
    unfold hdB
    simp only [Bool.or_eq_true, Bool.and_eq_true, decide_eq_true_eq, beq_iff_eq, Bool.false_or] at a ⊢
    omega
  have he : spN nmB s 0 = s.size := spN_eq rfl (Nat.zero_le _) (fun k _ q => hn k q) (by rw [chr_out (by omega)]; rfl)
  unfold isNm
  rw [decide_eq_true h1, decide_eq_true h2, hh, he]
  simp
theorem she_leaf {t : Tk} (h : hdK t.kd = true) (hr : Rgt t) : ShE [some t] :=
  ⟨⟨(fun u hu => by cases hu), trivial⟩, ⟨t, rfl, h⟩, ⟨t, rfl⟩, fun u hu => by
    rw [mem_tks, List.mem_singleton] at hu
    cases hu
    exact hr⟩
theorem she_suf {x : List It} (h : ShE x) {u : Tk} (hu : Rgt u) (hk : pqK 0 u.kd = true) : ShE (x ++ [some u]) := by
  obtain ⟨t, ht, hk1⟩ := h.hd
  refine ⟨okI_app h.ok ⟨(fun v hv => by cases hv), trivial⟩ (fun a b _ hb => ?_), ⟨t, by rw [List.head?_append, ht]; rfl, hk1⟩, ⟨u, by rw [List.getLast?_append]; rfl⟩, fun v hv => ?_⟩
  · cases hb
    unfold pqK at hk ⊢
    simp only [Bool.or_eq_true, Bool.and_eq_true, beq_iff_eq, decide_eq_true_eq, Bool.not_eq_true', beq_eq_false_iff_ne] at hk ⊢
    omega
  · rw [mem_tks, List.mem_append, List.mem_singleton] at hv
    rcases hv with q | q
    · exact h.rt v (mem_tks.2 q)
    · cases q; exact hu
/-- Two texts with a blank at least on either side of what stands between. -/
theorem she_two {x y m : List It} (h : ShE x) (g : ShE y) (hm : okI ([none] ++ m)) (hml : ∀ t, ([none] ++ m).getLast? ≠ some (some t)) (hr : ∀ t ∈ tksI m, Rgt t) : ShE (x ++ ([none] ++ m ++ y)) := by
  obtain ⟨t, ht, hk1⟩ := h.hd
  obtain ⟨l, hl⟩ := g.ls
  refine ⟨okI_app h.ok (okI_app hm g.ok (fun a b ha _ => absurd ha (hml a))) (fun a b _ hb => by cases hb), ⟨t, by rw [List.head?_append, ht]; rfl, hk1⟩, ⟨l, ?_⟩, fun v hv => ?_⟩
  · rw [List.getLast?_append, List.getLast?_append, hl]
    rfl
  · rw [mem_tks, List.mem_append, List.mem_append, List.mem_append] at hv
    rcases hv with q | (q | q) | q
    · exact h.rt v (mem_tks.2 q)
    · simp at q
    · exact hr v (mem_tks.2 q)
    · exact g.rt v (mem_tks.2 q)
theorem she_suf2 {x : List It} (h : ShE x) {u : Tk} (hu : Rgt u) : ShE (x ++ [none, sgI 27, none, some u]) := by
  obtain ⟨t, ht, hk1⟩ := h.hd
  refine ⟨okI_app h.ok ⟨(fun v hv => by cases hv), (fun v hv => by cases hv), trivial⟩ (fun a b _ hb => by cases hb), ⟨t, by rw [List.head?_append, ht]; rfl, hk1⟩, ⟨u, by rw [List.getLast?_append]; rfl⟩, fun v hv => ?_⟩
  rw [mem_tks, List.mem_append] at hv
  rcases hv with q | q
  · exact h.rt v (mem_tks.2 q)
  · simp only [List.mem_cons, List.not_mem_nil, or_false] at q
    rcases q with q | q | q | q
    · cases q
    · cases q; exact rg_sg (by decide) (by decide) (by decide) (by decide)
    · cases q
    · cases q; exact hu
/-- A sign or a bracket ahead. -/
theorem she_pre {x : List It} (h : ShE x) {o : Tk} (ho : Rgt o) (hk : hdK o.kd = true) (hp : o.kd = 16 ∨ o.kd = 8 ∨ o.kd = 9 ∨ o.kd = 19) : ShE ([some o] ++ x) := by
  obtain ⟨t, ht, hk1⟩ := h.hd
  obtain ⟨l, hl⟩ := h.ls
  refine ⟨okI_app ⟨(fun v hv => by cases hv), trivial⟩ h.ok (fun a b ha hb => ?_), ⟨o, rfl, hk⟩, ⟨l, by rw [List.getLast?_append, hl]; rfl⟩, fun v hv => ?_⟩
  · cases ha
    rw [ht] at hb
    cases hb
    have hb3 : t.kd ≠ 22 ∧ t.kd ≠ 24 ∧ t.kd ≠ 26 := by
      unfold hdK bgK at hk1
      simp only [Bool.or_eq_true, beq_iff_eq] at hk1
      omega
    unfold pqK
    simp only [Bool.or_eq_true, Bool.and_eq_true, beq_iff_eq, decide_eq_true_eq, Bool.not_eq_true', beq_eq_false_iff_ne]
    omega
  · rw [mem_tks, List.mem_append, List.mem_singleton] at hv
    rcases hv with q | q
    · cases q; exact ho
    · exact h.rt v (mem_tks.2 q)
/-- A bracket and a blank ahead. -/
theorem she_preb {x : List It} (h : ShE x) {o : Tk} (ho : Rgt o) (hk : hdK o.kd = true) : ShE ([some o, none] ++ x) := by
  obtain ⟨l, hl⟩ := h.ls
  refine ⟨okI_app ⟨(fun v hv => by cases hv), trivial⟩ h.ok (fun a b ha hb => by cases ha), ⟨o, rfl, hk⟩, ⟨l, by rw [List.getLast?_append, hl]; rfl⟩, fun v hv => ?_⟩
  rw [mem_tks, List.mem_append] at hv
  rcases hv with q | q
  · simp only [List.mem_cons, List.not_mem_nil, or_false] at q
    rcases q with q | q
    · cases q; exact ho
    · cases q
  · exact h.rt v (mem_tks.2 q)
/-- A blank and a bracket behind. -/
theorem she_endb {x : List It} (h : ShE x) {c : Tk} (hc : Rgt c) : ShE (x ++ [none, some c]) := by
  obtain ⟨t, ht, hk1⟩ := h.hd
  refine ⟨okI_app h.ok ⟨(fun v hv => by cases hv), trivial⟩ (fun a b _ hb => by cases hb), ⟨t, by rw [List.head?_append, ht]; rfl, hk1⟩, ⟨c, by rw [List.getLast?_append]; rfl⟩, fun v hv => ?_⟩
  rw [mem_tks, List.mem_append] at hv
  rcases hv with q | q
  · exact h.rt v (mem_tks.2 q)
  · simp only [List.mem_cons, List.not_mem_nil, or_false] at q
    rcases q with q | q
    · cases q
    · cases q; exact hc
theorem she_part {x : Ent} (h : ShE x.2) (k : Nat) : ShE (partI k x) := by
  unfold partI
  split
  · exact she_pre (she_suf h (u := ⟨17, 0, 0, 0, ⟨#[]⟩, 0, 0, 0, 0⟩) (rg_sg (by decide) (by decide) (by decide) (by decide)) rfl) (rg_sg (by decide) (by decide) (by decide) (by decide)) rfl (.inl rfl)
  · exact h
end Go.Proofs.YtnpifgcgjgddoaaDoor.N

namespace Go.Proofs.YtnpifgcgjgddoaaDoor.N
open Go.RowKit
theorem tx4 {n : Nd} (h : T.alE n = 0) (ho : n.op = 4) : 1 ≤ n.tx.size ∧ n.tx.size ≤ 255 := by
  have := (al_fd h).2.1
  unfold T.txF at this
  rw [if_pos ho] at this
  exact of_decide_eq_true this
theorem tx6 {n : Nd} (h : T.alE n = 0) (ho : n.op = 6) : isNm n.tx = true := by
  have := (al_fd h).2.1
  unfold T.txF at this
  rw [if_neg (by omega), if_pos ho] at this
  exact nm_of this
theorem tx19 {n : Nd} (h : T.alE n = 0) (ho : n.op = 19) : n.tx = ⟨#[]⟩ ∨ isNm n.tx = true := by
  have := (al_fd h).2.1
  unfold T.txF at this
  rw [if_neg (by omega), if_neg (by omega), if_pos ho, Bool.or_eq_true] at this
  rcases this with q | q
  · exact .inl (emp_of (by have := of_decide_eq_true q; omega))
  · exact .inr (nm_of q)
theorem tx22 {n : Nd} (h : T.alE n = 0) (ho : n.op = 22) : n.tx.size ≤ 255 := by
  have := (al_fd h).2.1
  unfold T.txF at this
  rw [if_neg (by omega), if_neg (by omega), if_neg (by omega), if_pos ho] at this
  unfold T.tmB at this
  split at this
  · assumption
  · cases this
theorem she_node {n : Nd} (h : T.alE n = 0) (hw : NdW n) (a b : Ent) (ha : 1 ≤ T.arN n.op → ShE a.2) (hb : T.arN n.op = 2 → ShE b.2) : ShE (nodeI n a b) := by
  rcases ar_ops h with ⟨z, o⟩ | ⟨z, o⟩ | ⟨z, o⟩
  · rcases o with o | o | o | o | o | o | o
    · rw [nodeI1 o]
      exact she_leaf (t := ⟨29, 0, 0, 0, ⟨#[]⟩, 0, 0, 0, 0⟩) rfl (rg_sg (by decide) (by decide) (by decide) (by decide))
    · rw [nodeI2 o]
      exact she_leaf (t := ⟨30, 0, 0, 0, ⟨#[]⟩, 0, 0, 0, 0⟩) rfl (rg_sg (by decide) (by decide) (by decide) (by decide))
    · rw [nodeI3 o]
      exact she_leaf (t := ⟨18, 0, 0, 0, ⟨#[]⟩, 0, 0, 0, 0⟩) rfl (rg_sg (by decide) (by decide) (by decide) (by decide))
    · rw [nodeI4 o]
      exact she_leaf (t := ⟨2, 0, 0, 0, n.tx, 0, 0, 0, 0⟩) rfl (rg_text (by have := tx4 h o; omega))
    · rw [nodeI5 o]
      exact she_leaf (t := ⟨3, 0, 0, 0, ⟨#[]⟩, n.s0, n.s1, n.s2, n.s3⟩) rfl (rg_set hw.a hw.b hw.c hw.d)
    · rw [nodeI6 o]
      exact she_leaf (t := ⟨1, 0, 0, 0, n.tx, 0, 0, 0, 0⟩) rfl (rg_name (tx6 h o))
    · rw [nodeI17 o]
      exact she_suf (x := [sgI 19]) (she_leaf (t := ⟨19, 0, 0, 0, ⟨#[]⟩, 0, 0, 0, 0⟩) rfl (rg_sg (by decide) (by decide) (by decide) (by decide))) (u := ⟨20, 0, 0, 0, ⟨#[]⟩, 0, 0, 0, 0⟩) (rg_sg (by decide) (by decide) (by decide) (by decide)) rfl
  · rcases o with o | o
    · rw [nodeI7 o]
      exact she_two (m := []) (she_part (ha (by omega)) 1) (she_part (hb (by omega)) 2) trivial (fun t q => by cases q) (fun t q => by cases q)
    · rw [nodeI8 o]
      exact she_two (m := [sgI 7, none]) (she_part (ha (by omega)) 0) (she_part (hb (by omega)) 1) ⟨(fun v q => by cases q), trivial⟩ (fun t q => by cases q) (fun t q => by rw [List.mem_singleton.1 q]; exact (rg_sg (by decide) (by decide) (by decide) (by decide)))
  · rcases o with o | o | o | o | o | o | o | o | o | o | o | o | o | o
    · rw [nodeI9 o]
      exact she_suf (she_part (ha (by omega)) 3) (u := ⟨11, 0, 0, 0, ⟨#[]⟩, 0, 0, 0, 0⟩) (rg_sg (by decide) (by decide) (by decide) (by decide)) rfl
    · rw [nodeI10 o]
      exact she_suf (she_part (ha (by omega)) 3) (u := ⟨12, 0, 0, 0, ⟨#[]⟩, 0, 0, 0, 0⟩) (rg_sg (by decide) (by decide) (by decide) (by decide)) rfl
    · rw [nodeI11 o]
      exact she_suf (she_part (ha (by omega)) 3) (u := ⟨10, 0, 0, 0, ⟨#[]⟩, 0, 0, 0, 0⟩) (rg_sg (by decide) (by decide) (by decide) (by decide)) rfl
    · rw [nodeI12 o]
      exact she_pre (she_part (ha (by omega)) 2) (o := ⟨8, 0, 0, 0, ⟨#[]⟩, 0, 0, 0, 0⟩) (rg_sg (by decide) (by decide) (by decide) (by decide)) rfl (by decide)
    · rw [nodeI13 o]
      exact she_pre (she_part (ha (by omega)) 2) (o := ⟨9, 0, 0, 0, ⟨#[]⟩, 0, 0, 0, 0⟩) (rg_sg (by decide) (by decide) (by decide) (by decide)) rfl (by decide)
    · rw [nodeI14 o]
      exact she_suf (she_part (ha (by omega)) 3) (u := ⟨13, n.nn, 0, 0, ⟨#[]⟩, 0, 0, 0, 0⟩) (rg_num (by omega) (nd_n h (by omega)).2.1 (nd_n h (by omega)).2.2) rfl
    · rw [nodeI15 o]
      exact she_suf (she_part (ha (by omega)) 3) (u := ⟨14, n.nn, 0, 0, ⟨#[]⟩, 0, 0, 0, 0⟩) (rg_num (by omega) (nd_n h (by omega)).2.1 (nd_n h (by omega)).2.2) rfl
    · rw [nodeI16 o]
      exact she_suf (she_part (ha (by omega)) 3) (u := ⟨15, n.nn, 0, 0, ⟨#[]⟩, 0, 0, 0, 0⟩) (rg_num (by omega) (nd_n h (by omega)).2.1 (nd_n h (by omega)).2.2) rfl
    · rw [nodeI18 o]
      exact she_pre (she_suf (she_part (ha (by omega)) 0) (u := ⟨20, 0, 0, 0, ⟨#[]⟩, 0, 0, 0, 0⟩) (rg_sg (by decide) (by decide) (by decide) (by decide)) rfl) (o := ⟨19, 0, 0, 0, ⟨#[]⟩, 0, 0, 0, 0⟩) (rg_sg (by decide) (by decide) (by decide) (by decide)) rfl (by decide)
    · rw [nodeI19 o]
      exact she_preb (she_endb (she_part (ha (by omega)) 0) (c := ⟨22, 0, 0, 0, ⟨#[]⟩, 0, 0, 0, 0⟩) (rg_sg (by decide) (by decide) (by decide) (by decide))) (o := ⟨21, 0, 0, 0, n.tx, 0, 0, 0, 0⟩) (rg_grp (tx19 h o)) rfl
    · rw [nodeI20 o]
      exact she_preb (she_endb (she_part (ha (by omega)) 0) (c := ⟨24, 0, 0, 0, ⟨#[]⟩, 0, 0, 0, 0⟩) (rg_sg (by decide) (by decide) (by decide) (by decide))) (o := ⟨23, 0, 0, 0, ⟨#[]⟩, 0, 0, 0, 0⟩) (rg_sg (by decide) (by decide) (by decide) (by decide)) rfl
    · rw [nodeI21 o]
      exact she_preb (she_endb (she_part (ha (by omega)) 0) (c := ⟨26, 0, 0, 0, ⟨#[]⟩, 0, 0, 0, 0⟩) (rg_sg (by decide) (by decide) (by decide) (by decide))) (o := ⟨25, 0, 0, 0, ⟨#[]⟩, 0, 0, 0, 0⟩) (rg_sg (by decide) (by decide) (by decide) (by decide)) rfl
    · rw [nodeI22 o]
      exact she_suf2 (she_part (ha (by omega)) 3) (u := ⟨2, 0, 0, 0, n.tx, 0, 0, 0, 0⟩) (rg_text (tx22 h o))
    · rw [nodeI23 o]
      exact she_suf2 (she_part (ha (by omega)) 3) (u := ⟨4, n.nn, 0, 0, ⟨#[]⟩, 0, 0, 0, 0⟩) (rg_num (by omega) (nd_n h (by omega)).2.1 (nd_n h (by omega)).2.2)
theorem shK_len {L : List Nd} : ∀ k, k ≤ L.length → (shK L k).length = (T.run L k).length := by
  intro k
  induction k with
  | zero => intro _; rfl
  | succ k ih =>
    intro hk
    have hn : L[k]? = some L[k] := List.getElem?_eq_getElem (by omega)
    rw [shK_succ hn, T.run_succ, T.op_of hn]
    unfold stepI
    rw [List.length_cons, List.length_cons, List.length_drop, List.length_drop, ih (by omega)]
theorem shK_she {L : List Nd} (he : ∀ j, j < L.length → T.er L j = 0) (hw : ∀ n ∈ L, NdW n) : ∀ k, k ≤ L.length → ∀ x ∈ shK L k, ShE x.2 := by
  intro k
  induction k with
  | zero => intro _ x hx; cases hx
  | succ k ih =>
    intro hk x hx
    have hn : L[k]? = some L[k] := List.getElem?_eq_getElem (by omega)
    have hm : L[k] ∈ L := List.getElem_mem (by omega)
    generalize L[k] = n at hn hm
    have hok := T.er_ok hn (he k (by omega))
    have har := hok.ar
    rw [← shK_len k (by omega)] at har
    have i := ih (by omega)
    rw [shK_succ hn] at hx
    have key : ∀ j, j < (shK L k).length → ShE ((shK L k)[j]?.getD e0).2 := fun j hj => by
      rw [List.getElem?_eq_getElem hj]
      exact i _ (List.getElem_mem hj)
    unfold stepI at hx
    rcases List.mem_cons.1 hx with rfl | hx
    · refine she_node hok.al (hw n hm) _ _ (fun h1 => ?_) (fun h2 => key 0 (by omega))
      by_cases h2 : T.arN n.op = 2
      · rw [if_pos h2]; exact key 1 (by omega)
      · rw [if_neg h2]; exact key 0 (by omega)
    · exact i x (List.mem_of_mem_drop hx)
theorem sh_she {L : List Nd} (hr : T.Rt L) (hw : ∀ n ∈ L, NdW n) : ShE (shI L) := by
  have h1 := hr.one
  rw [← shK_len L.length (Nat.le_refl _)] at h1
  unfold shI
  rw [List.getElem?_eq_getElem (by omega)]
  exact shK_she hr.each hw L.length (Nat.le_refl _) _ (List.getElem_mem (by omega))
end Go.Proofs.YtnpifgcgjgddoaaDoor.N

namespace Go.Proofs.YtnpifgcgjgddoaaDoor.N
open Go.RowKit
/-- Nodes ahead of their parts (P), and behind them (Q). -/
def PP : Nat → List Nd → List Nd → Prop
  | 0, _, _ => False
  | f + 1, P, Q => ∃ n, (T.arN n.op = 0 ∧ P = [n] ∧ Q = [n]) ∨ (T.arN n.op = 1 ∧ ∃ P1 Q1, PP f P1 Q1 ∧ P = n :: P1 ∧ Q = Q1 ++ [n]) ∨ (T.arN n.op = 2 ∧ ∃ P1 Q1 P2 Q2, PP f P1 Q1 ∧ PP f P2 Q2 ∧ P = n :: (P1 ++ P2) ∧ Q = Q1 ++ Q2 ++ [n])
theorem PP.up : ∀ {f : Nat} {P Q : List Nd}, PP f P Q → PP (f + 1) P Q := by
  intro f
  induction f with
  | zero => intro P Q h; exact h.elim
  | succ f ih =>
    intro P Q h
    obtain ⟨n, h⟩ := h
    refine ⟨n, ?_⟩
    rcases h with h | ⟨h1, P1, Q1, h2, h3⟩ | ⟨h1, P1, Q1, P2, Q2, h2, h3, h4⟩
    · exact .inl h
    · exact .inr (.inl ⟨h1, P1, Q1, ih h2, h3⟩)
    · exact .inr (.inr ⟨h1, P1, Q1, P2, Q2, ih h2, ih h3, h4⟩)
theorem PP.le {f g : Nat} {P Q : List Nd} (h : PP f P Q) (hg : f ≤ g) : PP g P Q := by
  obtain ⟨k, rfl⟩ := Nat.le.dest hg
  clear hg
  induction k with
  | zero => exact h
  | succ k ih => exact PP.up ih
/-- There is but one pattern of nodes ahead of their parts. -/
theorem PP.one : ∀ {f g : Nat} {P Q P' Q' R R' : List Nd}, PP f P Q → PP g P' Q' → P ++ R = P' ++ R' → P = P' ∧ Q = Q' ∧ R = R' := by
  intro f
  induction f with
  | zero => intro g P Q P' Q' R R' h; exact h.elim
  | succ f ih =>
    intro g P Q P' Q' R R' h h' e
    cases g with
    | zero => exact h'.elim
    | succ g =>
      obtain ⟨n, h⟩ := h
      obtain ⟨m, h'⟩ := h'
      rcases h with ⟨a1, rfl, rfl⟩ | ⟨a1, P1, Q1, h2, rfl, rfl⟩ | ⟨a1, P1, Q1, P2, Q2, h2, h3, rfl, rfl⟩
      · rcases h' with ⟨b1, rfl, rfl⟩ | ⟨b1, P3, Q3, k2, rfl, rfl⟩ | ⟨b1, P3, Q3, P4, Q4, k2, k3, rfl, rfl⟩
        · obtain ⟨q, e2⟩ := List.cons.inj e
          subst q
          exact ⟨rfl, rfl, e2⟩
        · obtain ⟨q, e2⟩ := List.cons.inj e
          subst q
          omega
        · obtain ⟨q, e2⟩ := List.cons.inj e
          subst q
          omega
      · rcases h' with ⟨b1, rfl, rfl⟩ | ⟨b1, P3, Q3, k2, rfl, rfl⟩ | ⟨b1, P3, Q3, P4, Q4, k2, k3, rfl, rfl⟩
        · obtain ⟨q, e2⟩ := List.cons.inj e
          subst q
          omega
        · obtain ⟨q, e2⟩ := List.cons.inj e
          subst q
          obtain ⟨rfl, rfl, rfl⟩ := ih h2 k2 e2
          exact ⟨rfl, rfl, rfl⟩
        · obtain ⟨q, e2⟩ := List.cons.inj e
          subst q
          omega
      · rcases h' with ⟨b1, rfl, rfl⟩ | ⟨b1, P3, Q3, k2, rfl, rfl⟩ | ⟨b1, P3, Q3, P4, Q4, k2, k3, rfl, rfl⟩
        · obtain ⟨q, e2⟩ := List.cons.inj e
          subst q
          omega
        · obtain ⟨q, e2⟩ := List.cons.inj e
          subst q
          omega
        · obtain ⟨q, e2⟩ := List.cons.inj e
          subst q
          have e2 : P1 ++ (P2 ++ R) = P3 ++ (P4 ++ R') := by
            have e3 : P1 ++ P2 ++ R = P3 ++ P4 ++ R' := e2
            rwa [List.append_assoc, List.append_assoc] at e3
          obtain ⟨rfl, rfl, e4⟩ := ih h2 k2 e2
          obtain ⟨rfl, rfl, rfl⟩ := ih h3 k3 e4
          exact ⟨rfl, rfl, rfl⟩
/-- A tree's rows: how far in, and the node. -/
abbrev Tr := List (Nat × Nd)
def upT (e : Tr) : Tr := e.map fun x => (x.1 + 1, x.2)
theorem upT_nd (e : Tr) : (upT e).map (fun x => x.2) = e.map fun x => x.2 := by unfold upT; rw [List.map_map]; rfl
def nodeT (n : Nd) (a b : Tr) : Tr := (0, n) :: (if T.arN n.op = 0 then [] else if T.arN n.op = 1 then upT a else upT a ++ upT b)
def stepT (n : Nd) (st : List Tr) : List Tr := nodeT n (if T.arN n.op = 2 then (st[1]?).getD [] else (st[0]?).getD []) ((st[0]?).getD []) :: st.drop (T.arN n.op)
def trK (L : List Nd) : Nat → List Tr
  | 0 => []
  | k + 1 => match L[k]? with
    | some n => stepT n (trK L k)
    | none => trK L k
theorem trK_succ {L : List Nd} {k : Nat} {n : Nd} (h : L[k]? = some n) : trK L (k + 1) = stepT n (trK L k) := by
  rw [trK, h]
/-- The rows of a whole pattern's tree. -/
def trI (L : List Nd) : Tr := (trK L L.length)[0]?.getD []
def StkT : List Tr → List Nd → Prop
  | [], P => P = []
  | x :: xs, P => ∃ A Q, P = A ++ Q ∧ (∃ f, PP f (x.map fun y => y.2) Q) ∧ StkT xs A
theorem stkT_cons {st : List Tr} {P : List Nd} (h : StkT st P) (hl : 1 ≤ st.length) : ∃ x xs A Q, st = x :: xs ∧ P = A ++ Q ∧ (∃ f, PP f (x.map fun y => y.2) Q) ∧ StkT xs A := by
  cases st with
  | nil => simp at hl
  | cons x xs =>
    obtain ⟨A, Q, h1, h2, h3⟩ := h
    exact ⟨x, xs, A, Q, rfl, h1, h2, h3⟩
theorem trK_len {L : List Nd} : ∀ k, k ≤ L.length → (trK L k).length = (T.run L k).length := by
  intro k
  induction k with
  | zero => intro _; rfl
  | succ k ih =>
    intro hk
    have hn : L[k]? = some L[k] := List.getElem?_eq_getElem (by omega)
    rw [trK_succ hn, T.run_succ, T.op_of hn]
    unfold stepT
    rw [List.length_cons, List.length_cons, List.length_drop, List.length_drop, ih (by omega)]
theorem stkT_run {L : List Nd} (he : ∀ j, j < L.length → T.er L j = 0) : ∀ k, k ≤ L.length → StkT (trK L k) (L.take k) := by
  intro k
  induction k with
  | zero => intro _; rw [List.take_zero]; exact (rfl : ([] : List Nd) = [])
  | succ k ih =>
    intro hk
    have hn : L[k]? = some L[k] := List.getElem?_eq_getElem (by omega)
    generalize L[k] = n at hn
    have hok := T.er_ok hn (he k (by omega))
    have i := ih (by omega)
    have htk : L.take (k + 1) = L.take k ++ [n] := by rw [List.take_add_one, hn]; rfl
    have har := hok.ar
    rw [← trK_len k (by omega)] at har
    rw [trK_succ hn, htk]
    rcases Nat.lt_or_ge (T.arN n.op) 1 with h0 | h0
    · have h0 : T.arN n.op = 0 := by omega
      unfold stepT nodeT
      rw [h0]
      exact ⟨L.take k, [n], rfl, ⟨1, n, .inl ⟨h0, rfl, rfl⟩⟩, i⟩
    · rcases Nat.lt_or_ge (T.arN n.op) 2 with h1 | h1
      · have h1 : T.arN n.op = 1 := by omega
        obtain ⟨x, xs, A, Q, e1, e2, ⟨f, e3⟩, e4⟩ := stkT_cons i (by omega)
        rw [e1, e2]
        unfold stepT nodeT
        rw [h1]
        refine ⟨A, Q ++ [n], by rw [List.append_assoc], ⟨f + 1, n, .inr (.inl ⟨h1, _, Q, e3, ?_, rfl⟩)⟩, e4⟩
        show n :: (upT x).map (fun y => y.2) = _
        rw [upT_nd]
      · have h2 : T.arN n.op = 2 := by have := T.arN_le n.op; omega
        obtain ⟨y, ys, A, R, e1, e2, ⟨f, e3⟩, e4⟩ := stkT_cons i (by omega)
        rw [e1, List.length_cons] at har
        obtain ⟨x, xs, B, Q, f1, f2, ⟨g, f3⟩, f4⟩ := stkT_cons e4 (by omega)
        rw [e1, e2, f1, f2]
        unfold stepT nodeT
        rw [h2]
        refine ⟨B, Q ++ R ++ [n], by simp only [List.append_assoc], ⟨max f g + 1, n, .inr (.inr ⟨h2, _, Q, _, R, f3.le (Nat.le_max_right _ _), e3.le (Nat.le_max_left _ _), ?_, rfl⟩)⟩, f4⟩
        show n :: (upT x ++ upT y).map (fun y => y.2) = _
        rw [List.map_append, upT_nd, upT_nd]
theorem tr_pp {L : List Nd} (hr : T.Rt L) : ∃ f, PP f ((trI L).map fun y => y.2) L := by
  have h1 := stkT_run hr.each L.length (Nat.le_refl _)
  rw [List.take_length] at h1
  have h2 := hr.one
  rw [← trK_len L.length (Nat.le_refl _)] at h2
  obtain ⟨x, xs, A, Q, e1, e2, e3, e4⟩ := stkT_cons h1 (by omega)
  rw [e1, List.length_cons] at h2
  obtain rfl : xs = [] := List.eq_nil_of_length_eq_zero (by omega)
  obtain rfl : A = [] := e4
  rw [List.nil_append] at e2
  unfold trI
  rw [e1, e2]
  exact e3
/-- Patterns whose trees have the same rows are the same. -/
theorem tr_inj {L M : List Nd} (hl : T.Rt L) (hm : T.Rt M) (h : trI L = trI M) : L = M := by
  obtain ⟨f, h1⟩ := tr_pp hl
  obtain ⟨g, h2⟩ := tr_pp hm
  exact (PP.one (R := []) (R' := []) h1 h2 (by rw [h])).2.1
theorem PP.len : ∀ {f : Nat} {P Q : List Nd}, PP f P Q → P.length = Q.length := by
  intro f
  induction f with
  | zero => intro P Q h; exact h.elim
  | succ f ih =>
    intro P Q h
    obtain ⟨n, h⟩ := h
    rcases h with ⟨_, rfl, rfl⟩ | ⟨_, P1, Q1, h2, rfl, rfl⟩ | ⟨_, P1, Q1, P2, Q2, h2, h3, rfl, rfl⟩
    · rfl
    · have := ih h2
      simp only [List.length_cons, List.length_append, List.length_nil]
      omega
    · have := ih h2
      have := ih h3
      simp only [List.length_cons, List.length_append, List.length_nil]
      omega
/-- A tree has a row for each node. -/
theorem tr_len {L : List Nd} (hr : T.Rt L) : (trI L).length = L.length := by
  obtain ⟨f, h1⟩ := tr_pp hr
  have := h1.len
  rwa [List.length_map] at this
theorem PP.mem : ∀ {f : Nat} {P Q : List Nd}, PP f P Q → ∀ n ∈ P, n ∈ Q := by
  intro f
  induction f with
  | zero => intro P Q h; exact h.elim
  | succ f ih =>
    intro P Q h n hn
    obtain ⟨m, h⟩ := h
    rcases h with ⟨_, rfl, rfl⟩ | ⟨_, P1, Q1, h2, rfl, rfl⟩ | ⟨_, P1, Q1, P2, Q2, h2, h3, rfl, rfl⟩
    · exact hn
    · rcases List.mem_cons.1 hn with rfl | hn
      · simp
      · exact List.mem_append_left _ (ih h2 n hn)
    · rcases List.mem_cons.1 hn with rfl | hn
      · simp
      · rcases List.mem_append.1 hn with q | q
        · exact List.mem_append_left _ (List.mem_append_left _ (ih h2 n q))
        · exact List.mem_append_left _ (List.mem_append_right _ (ih h3 n q))
theorem tr_mem {L : List Nd} (hr : T.Rt L) : ∀ x ∈ trI L, x.2 ∈ L := fun x hx => by
  obtain ⟨f, h1⟩ := tr_pp hr
  exact h1.mem x.2 (List.mem_map_of_mem hx)
end Go.Proofs.YtnpifgcgjgddoaaDoor.N

namespace Go.Proofs.YtnpifgcgjgddoaaDoor.N
open Go.RowKit
/-- The word of a kind. -/
def wdT (op : Int) : List UInt8 := if op = 1 then [101, 109, 112, 116, 121] else if op = 2 then [102, 97, 105, 108] else if op = 3 then [97, 110, 121] else if op = 4 then [116, 101, 120, 116] else if op = 5 then [115, 101, 116] else if op = 6 then [99, 97, 108, 108] else if op = 7 then [115, 101, 113] else if op = 8 then [99, 104, 111, 105, 99, 101] else if op = 9 then [115, 116, 97, 114] else if op = 10 then [112, 108, 117, 115] else if op = 11 then [111, 112, 116] else if op = 12 then [97, 110, 100] else if op = 13 then [110, 111, 116] else if op = 14 then [116, 105, 109, 101, 115] else if op = 15 then [108, 101, 97, 115, 116] else if op = 16 then [109, 111, 115, 116] else if op = 17 then [112, 108, 97, 99, 101] else if op = 18 then [115, 117, 98] else if op = 19 then [103, 114, 111, 117, 112] else if op = 20 then [108, 105, 115, 116] else if op = 21 then [115, 117, 98, 115, 116] else if op = 22 then [115, 116, 114, 105, 110, 103] else if op = 23 then [112, 105, 99, 107] else []
/-- What stands behind the word. -/
def agT (n : Nd) : Option Tk :=
  if n.op = 4 ∨ n.op = 22 then some ⟨2, 0, 0, 0, n.tx, 0, 0, 0, 0⟩ else if n.op = 5 then some ⟨3, 0, 0, 0, ⟨#[]⟩, n.s0, n.s1, n.s2, n.s3⟩
  else if n.op = 6 then some ⟨1, 0, 0, 0, n.tx, 0, 0, 0, 0⟩ else if n.op = 19 then (if n.tx.size = 0 then none else some ⟨1, 0, 0, 0, n.tx, 0, 0, 0, 0⟩)
  else if n.op = 14 ∨ n.op = 15 ∨ n.op = 16 ∨ n.op = 23 then some ⟨4, n.nn, 0, 0, ⟨#[]⟩, 0, 0, 0, 0⟩ else none
def agX (o : Option Tk) : List UInt8 := match o with
  | none => []
  | some t => 32 :: (tkX t).data.toList
def lnT (n : Nd) : List UInt8 := wdT n.op ++ agX (agT n)
def rowT (x : Nat × Nd) : List UInt8 := List.replicate (2 * x.1) 32 ++ lnT x.2 ++ [10]
def trT (e : Tr) : List UInt8 := e.flatMap rowT
/-- Two texts up to a sign that neither holds. -/
theorem upto_sign {c : UInt8} : ∀ (a b r r' : List UInt8), (∀ x ∈ a, x ≠ c) → (∀ x ∈ b, x ≠ c) → (r = [] ∨ ∃ q, r = c :: q) → (r' = [] ∨ ∃ q, r' = c :: q) → a ++ r = b ++ r' → a = b ∧ r = r' := by
  intro a
  induction a with
  | nil =>
    intro b r r' _ hb hr hr' e
    cases b with
    | nil => exact ⟨rfl, e⟩
    | cons y b =>
      rcases hr with rfl | ⟨q, rfl⟩
      · cases e
      · injection e with e1 e2
        exact absurd e1.symm (hb y (List.mem_cons_self))
  | cons x a ih =>
    intro b r r' ha hb hr hr' e
    cases b with
    | nil =>
      rcases hr' with rfl | ⟨q, rfl⟩
      · cases e
      · injection e with e1 e2
        exact absurd e1 (ha x (List.mem_cons_self))
    | cons y b =>
      injection e with e1 e2
      obtain ⟨q1, q2⟩ := ih b r r' (fun z hz => ha z (List.mem_cons_of_mem _ hz)) (fun z hz => hb z (List.mem_cons_of_mem _ hz)) hr hr' e2
      exact ⟨by rw [e1, q1], q2⟩
theorem itm_pr : ∀ b : Fin 256, (itm b.val).all (fun c => decide (32 ≤ c.toNat)) = true := by decide +kernel
theorem itm_ge {b : Nat} (h : b < 256) : ∀ c ∈ itm b, 32 ≤ c.toNat := fun c hc => by
  have := itm_pr ⟨b, h⟩
  exact of_decide_eq_true (List.all_eq_true.1 this c hc)
theorem spT_ge {lo hi : Nat} (h1 : lo < 256) (h2 : hi < 256) : ∀ c ∈ spT lo hi, 32 ≤ c.toNat := fun c hc => by
  unfold spT at hc
  split at hc
  · exact itm_ge h1 c hc
  · split at hc
    · rcases List.mem_append.1 hc with q | q
      · exact itm_ge h1 c q
      · exact itm_ge h2 c q
    · rcases List.mem_append.1 hc with q | q
      · rcases List.mem_append.1 q with q | q
        · exact itm_ge h1 c q
        · rw [List.mem_singleton.1 q]; decide
      · exact itm_ge h2 c q
theorem shT_ge (x : BitVec 256) : ∀ c ∈ shT x, 32 ≤ c.toNat := fun c hc => by
  unfold shT at hc
  split at hc
  · simp only [List.mem_cons, List.not_mem_nil, or_false] at hc
    rcases hc with rfl | rfl | rfl <;> decide
  · rcases List.mem_append.1 hc with q | q
    · rcases List.mem_cons.1 q with rfl | q
      · decide
      · unfold mems at q
        obtain ⟨p, hp, q⟩ := List.mem_flatMap.1 q
        have := spL_byte x p hp
        exact spT_ge (by omega) (by omega) c q
    · rw [List.mem_singleton.1 q]; decide
theorem ofn_ge {n : Int} (h1 : 32 ≤ n) (h2 : n ≤ 255) : 32 ≤ (UInt8.ofNat n.toNat).toNat := by
  rw [UInt8.toNat_ofNat']
  omega
theorem shB_rng {b : Int} (h0 : 0 ≤ b) (h1 : b ≤ 255) : ∀ n ∈ Q.shB b, 32 ≤ n ∧ n ≤ 255 := fun n hn => by
  have hx : ∀ m : Int, 0 ≤ m → m < 16 → 32 ≤ Q.hexD m ∧ Q.hexD m ≤ 255 := fun m q1 q2 => by
    unfold Q.hexD
    split <;> omega
  unfold Q.shB at hn
  split at hn
  · simp only [List.mem_cons, List.not_mem_nil, or_false] at hn; omega
  split at hn
  · simp only [List.mem_cons, List.not_mem_nil, or_false] at hn; omega
  split at hn
  · simp only [List.mem_cons, List.not_mem_nil, or_false] at hn; omega
  split at hn
  · simp only [List.mem_cons, List.not_mem_nil, or_false] at hn; omega
  split at hn
  · simp only [List.mem_cons, List.not_mem_nil, or_false] at hn; omega
  · simp only [List.mem_cons, List.not_mem_nil, or_false] at hn
    rcases hn with rfl | rfl | rfl | rfl
    · omega
    · omega
    · exact hx _ (by omega) (by omega)
    · exact hx _ (by omega) (by omega)
theorem lit_ge (s : ByteArray) : ∀ c ∈ (Q.asText (Q.qT s)).data.toList, 32 ≤ c.toNat := fun c hc => by
  rw [Q.asText_data] at hc
  obtain ⟨n, hn, rfl⟩ := List.mem_map.1 hc
  unfold Q.qT at hn
  have key : 32 ≤ n ∧ n ≤ 255 := by
    rcases List.mem_append.1 hn with q | q
    · rcases List.mem_cons.1 q with rfl | q
      · omega
      · obtain ⟨b, hb, q⟩ := List.mem_flatMap.1 q
        unfold Q.byl at hb
        obtain ⟨u, _, rfl⟩ := List.mem_map.1 hb
        have := u.toNat_lt
        exact shB_rng (by omega) (by omega) n q
    · rw [List.mem_singleton.1 q]; omega
  exact ofn_ge key.1 key.2
theorem dg_ge (n : Nat) : ∀ c ∈ dgT 10 n, 32 ≤ c.toNat := fun c hc => by
  obtain ⟨d, hd, rfl⟩ := dgT_dig 10 (by omega) (by omega) n c hc
  have : ∀ d : Fin 10, 32 ≤ (hexD d.val).toNat := by decide
  exact this ⟨d, hd⟩
theorem name_ge {s : ByteArray} (h : isNm s = true) : ∀ c ∈ s.data.toList, 32 ≤ c.toNat := fun c hc => by
  unfold isNm at h
  simp only [Bool.and_eq_true, decide_eq_true_eq, beq_iff_eq] at h
  obtain ⟨⟨⟨h1, h2⟩, h3⟩, h4⟩ := h
  obtain ⟨j, hj, rfl⟩ := List.mem_iff_getElem.1 hc
  have hj2 : j < s.size := hj
  have h5 := (spN_spec nmB s rfl _ 0 rfl).2.2.2 j (Nat.zero_le _) (by rw [h4]; exact hj2)
  rw [chr_in hj2] at h5
  have h6 : s[j] = s.data.toList[j] := rfl
  rw [h6] at h5
  unfold nmB hdB dgB at h5
  simp only [Bool.or_eq_true, Bool.and_eq_true, decide_eq_true_eq, beq_iff_eq] at h5
  omega
theorem tk_ge {t : Tk} (hr : Rgt t) (hk : t.kd = 1 ∨ t.kd = 2 ∨ t.kd = 3 ∨ t.kd = 4) : ∀ c ∈ (tkX t).data.toList, 32 ≤ c.toNat := fun c hc => by
  unfold tkX at hc
  rcases hk with q | q | q | q
  · rw [if_pos q] at hc
    have := (ri_nat hr.r).2.2.1
    unfold txF at this
    rw [if_pos q] at this
    exact name_ge this c hc
  · rw [if_neg (by omega), if_neg (by omega), if_pos q] at hc
    exact lit_ge _ c hc
  · rw [if_neg (by omega), if_neg (by omega), if_neg (by omega), if_pos q] at hc
    exact shT_ge _ c hc
  · rw [if_neg (by omega), if_neg (by omega), if_neg (by omega), if_neg (by omega), if_neg (by omega), if_neg (by omega), if_pos q] at hc
    exact dg_ge _ c hc
theorem wd_all : ∀ k : Fin 23, (wdT ((k.val : Int) + 1)).all (fun c => decide (97 ≤ c.toNat)) = true ∧ wdT ((k.val : Int) + 1) ≠ [] := by decide +kernel
theorem wd_inj : ∀ k m : Fin 23, wdT ((k.val : Int) + 1) = wdT ((m.val : Int) + 1) → k = m := by decide +kernel
theorem wd_ge {n : Nd} (h : T.alE n = 0) : (∀ c ∈ wdT n.op, 97 ≤ c.toNat) ∧ wdT n.op ≠ [] := by
  have hr := op_rng h
  have := wd_all ⟨(n.op - 1).toNat, by omega⟩
  rw [show (((n.op - 1).toNat : Nat) : Int) + 1 = n.op from by omega] at this
  exact ⟨fun c hc => of_decide_eq_true (List.all_eq_true.1 this.1 c hc), this.2⟩
theorem wd_one {n m : Nd} (h : T.alE n = 0) (h' : T.alE m = 0) (e : wdT n.op = wdT m.op) : n.op = m.op := by
  have hr := op_rng h
  have hr' := op_rng h'
  have := wd_inj ⟨(n.op - 1).toNat, by omega⟩ ⟨(m.op - 1).toNat, by omega⟩ (by
    show wdT ((((n.op - 1).toNat : Nat) : Int) + 1) = wdT ((((m.op - 1).toNat : Nat) : Int) + 1)
    rw [show (((n.op - 1).toNat : Nat) : Int) + 1 = n.op from by omega, show (((m.op - 1).toNat : Nat) : Int) + 1 = m.op from by omega]
    exact e)
  have := congrArg Fin.val this
  dsimp only at this
  omega
/-- What stands behind the word is a right token. -/
theorem ag_rgt {n : Nd} (h : T.alE n = 0) (hw : NdW n) {t : Tk} (e : agT n = some t) : Rgt t ∧ (t.kd = 1 ∨ t.kd = 2 ∨ t.kd = 3 ∨ t.kd = 4) := by
  unfold agT at e
  split at e
  · next q =>
    cases e
    refine ⟨rg_text ?_, .inr (.inl rfl)⟩
    rcases q with q | q
    · exact (tx4 h q).2
    · exact tx22 h q
  split at e
  · cases e; exact ⟨rg_set hw.a hw.b hw.c hw.d, .inr (.inr (.inl rfl))⟩
  split at e
  · next q => cases e; exact ⟨rg_name (tx6 h q), .inl rfl⟩
  split at e
  · next q =>
    split at e
    · cases e
    · next q2 =>
      cases e
      refine ⟨rg_name ?_, .inl rfl⟩
      rcases tx19 h q with z | z
      · rw [z] at q2; exact absurd rfl q2
      · exact z
  split at e
  · next q => cases e; exact ⟨rg_num (.inl rfl) (nd_n h q).2.1 (nd_n h q).2.2, .inr (.inr (.inr rfl))⟩
  · cases e
theorem tk_one {t u : Tk} (ht : Rgt t) (hu : Rgt u) (e : (tkX t).data.toList = (tkX u).data.toList) : lkT t = lkT u := by
  have e2 : tkX t = tkX u := by
    apply ByteArray.ext
    exact Array.toList_inj.1 e
  have h1 := (aln_of ht.r ht.b).o
  have h2 := (aln_of hu.r hu.b).o
  rw [e2, h2] at h1
  injection h1 with h3
  have a1 := congrArg Tk.kd h3
  have a2 := congrArg Tk.nn h3
  have a3 := congrArg Tk.tx h3
  have a4 := congrArg Tk.s0 h3
  have a5 := congrArg Tk.s1 h3
  have a6 := congrArg Tk.s2 h3
  have a7 := congrArg Tk.s3 h3
  obtain ⟨kd, nn, fr, en, tx, s0, s1, s2, s3⟩ := t
  obtain ⟨kd', nn', fr', en', tx', s0', s1', s2', s3'⟩ := u
  dsimp only at a1 a2 a3 a4 a5 a6 a7
  subst a1 a2 a3 a4 a5 a6 a7
  rfl
theorem ag_one {n m : Nd} (h : T.alE n = 0) (h' : T.alE m = 0) (hw : NdW n) (hw' : NdW m) (ho : n.op = m.op) (e : agX (agT n) = agX (agT m)) : n = m := by
  have key : (agT n).map lkT = (agT m).map lkT := by
    cases hn : agT n with
    | none =>
      cases hm : agT m with
      | none => rfl
      | some u => rw [hn, hm] at e; cases e
    | some t =>
      cases hm : agT m with
      | none => rw [hn, hm] at e; cases e
      | some u =>
        rw [hn, hm] at e
        injection e with _ e2
        show some (lkT t) = some (lkT u)
        rw [tk_one (ag_rgt h hw hn).1 (ag_rgt h' hw' hm).1 e2]
  unfold agT at key
  rw [← ho] at key
  by_cases q1 : n.op = 4 ∨ n.op = 22
  · rw [if_pos q1, if_pos q1] at key
    injection key with k
    have := congrArg Tk.tx k
    have e3 : n.tx = m.tx := this
    rw [nd_t h (by omega), nd_t h' (by omega), ← ho, e3]
  rw [if_neg q1, if_neg q1] at key
  by_cases q2 : n.op = 5
  · rw [if_pos q2, if_pos q2] at key
    injection key with k
    have b0 : n.s0 = m.s0 := congrArg Tk.s0 k
    have b1 : n.s1 = m.s1 := congrArg Tk.s1 k
    have b2 : n.s2 = m.s2 := congrArg Tk.s2 k
    have b3 : n.s3 = m.s3 := congrArg Tk.s3 k
    rw [nd_s h q2, nd_s h' (by omega), ← ho, b0, b1, b2, b3]
  rw [if_neg q2, if_neg q2] at key
  by_cases q3 : n.op = 6
  · rw [if_pos q3, if_pos q3] at key
    injection key with k
    have e3 : n.tx = m.tx := congrArg Tk.tx k
    rw [nd_t h (by omega), nd_t h' (by omega), ← ho, e3]
  rw [if_neg q3, if_neg q3] at key
  by_cases q4 : n.op = 19
  · rw [if_pos q4, if_pos q4] at key
    have e3 : n.tx = m.tx := by
      by_cases z1 : n.tx.size = 0
      · rw [if_pos z1] at key
        by_cases z2 : m.tx.size = 0
        · rw [emp_of (s := n.tx) (by omega), emp_of (s := m.tx) (by omega)]
        · rw [if_neg z2] at key; cases key
      · rw [if_neg z1] at key
        by_cases z2 : m.tx.size = 0
        · rw [if_pos z2] at key; cases key
        · rw [if_neg z2] at key
          injection key with k
          exact congrArg Tk.tx k
    rw [nd_t h (by omega), nd_t h' (by omega), ← ho, e3]
  rw [if_neg q4, if_neg q4] at key
  by_cases q5 : n.op = 14 ∨ n.op = 15 ∨ n.op = 16 ∨ n.op = 23
  · rw [if_pos q5, if_pos q5] at key
    injection key with k
    have e3 : n.nn = m.nn := congrArg Tk.nn k
    rw [(nd_n h q5).1, (nd_n h' (by omega)).1, ← ho, e3]
  · rw [nd_z h (by omega), nd_z h' (by omega), ← ho]
end Go.Proofs.YtnpifgcgjgddoaaDoor.N

namespace Go.Proofs.YtnpifgcgjgddoaaDoor.N
open Go.RowKit
theorem ln_ge {n : Nd} (h : T.alE n = 0) (hw : NdW n) : ∀ c ∈ lnT n, 32 ≤ c.toNat := fun c hc => by
  unfold lnT at hc
  rcases List.mem_append.1 hc with q | q
  · have := (wd_ge h).1 c q; omega
  · unfold agX at q
    cases ha : agT n with
    | none => rw [ha] at q; cases q
    | some t =>
      rw [ha] at q
      rcases List.mem_cons.1 q with rfl | q
      · decide
      · exact tk_ge (ag_rgt h hw ha).1 (ag_rgt h hw ha).2 c q
theorem ln_one {n m : Nd} (h : T.alE n = 0) (h' : T.alE m = 0) (hw : NdW n) (hw' : NdW m) (e : lnT n = lnT m) : n = m := by
  have ag : ∀ o : Option Tk, agX o = [] ∨ ∃ q, agX o = 32 :: q := fun o => by
    cases o with
    | none => exact .inl rfl
    | some t => exact .inr ⟨_, rfl⟩
  have no : ∀ k : Nd, T.alE k = 0 → ∀ x ∈ wdT k.op, x ≠ 32 := fun k hk x hx q => by
    have := (wd_ge hk).1 x hx
    rw [q] at this
    exact absurd this (by decide)
  obtain ⟨e1, e2⟩ := upto_sign (c := 32) _ _ _ _ (no n h) (no m h') (ag _) (ag _) e
  exact ag_one h h' hw hw' (wd_one h h' e1) e2
theorem bl_one : ∀ (i j : Nat) (a b : List UInt8), (∃ c r, a = c :: r ∧ c ≠ 32) → (∃ c r, b = c :: r ∧ c ≠ 32) → List.replicate i 32 ++ a = List.replicate j 32 ++ b → i = j ∧ a = b := by
  intro i
  induction i with
  | zero =>
    intro j a b ha hb e
    cases j with
    | zero => exact ⟨rfl, e⟩
    | succ j =>
      obtain ⟨c, r, rfl, hc⟩ := ha
      rw [List.replicate_succ] at e
      injection e with e1 _
      exact absurd e1 hc
  | succ i ih =>
    intro j a b ha hb e
    cases j with
    | zero =>
      obtain ⟨c, r, rfl, hc⟩ := hb
      rw [List.replicate_succ] at e
      injection e with e1 _
      exact absurd e1.symm hc
    | succ j =>
      rw [List.replicate_succ, List.replicate_succ] at e
      injection e with _ e2
      obtain ⟨q1, q2⟩ := ih j a b ha hb e2
      exact ⟨by omega, q2⟩
theorem ln_head {n : Nd} (h : T.alE n = 0) : ∃ c r, lnT n = c :: r ∧ c ≠ 32 := by
  have hw := wd_ge h
  unfold lnT
  cases hq : wdT n.op with
  | nil => exact absurd hq hw.2
  | cons c r =>
    refine ⟨c, r ++ agX (agT n), rfl, fun q => ?_⟩
    have := hw.1 c (by rw [hq]; exact List.mem_cons_self)
    rw [q] at this
    exact absurd this (by decide)
theorem row_no {x : Nat × Nd} (h : T.alE x.2 = 0) (hw : NdW x.2) : ∀ c ∈ List.replicate (2 * x.1) 32 ++ lnT x.2, c ≠ 10 := fun c hc q => by
  rw [q] at hc
  rcases List.mem_append.1 hc with z | z
  · have := List.eq_of_mem_replicate z
    exact absurd this (by decide)
  · exact absurd (ln_ge h hw 10 z) (by decide)
theorem row_one {x y : Nat × Nd} (h : T.alE x.2 = 0) (h' : T.alE y.2 = 0) (hw : NdW x.2) (hw' : NdW y.2) {r r' : List UInt8} (e : rowT x ++ r = rowT y ++ r') : x = y ∧ r = r' := by
  have e : (List.replicate (2 * x.1) 32 ++ lnT x.2) ++ 10 :: r = (List.replicate (2 * y.1) 32 ++ lnT y.2) ++ 10 :: r' := by
    unfold rowT at e
    simpa using e
  obtain ⟨e1, e2⟩ := upto_sign (c := 10) _ _ _ _ (row_no h hw) (row_no h' hw') (.inr ⟨r, rfl⟩) (.inr ⟨r', rfl⟩) e
  injection e2 with _ e2
  obtain ⟨e3, e4⟩ := bl_one _ _ _ _ (ln_head h) (ln_head h') e1
  have e5 := ln_one h h' hw hw' e4
  obtain ⟨d, n⟩ := x
  obtain ⟨d', n'⟩ := y
  dsimp only at e3 e5
  obtain rfl : d = d' := by omega
  subst e5
  exact ⟨rfl, e2⟩
theorem trT_one : ∀ (a b : Tr), (∀ x ∈ a, T.alE x.2 = 0 ∧ NdW x.2) → (∀ x ∈ b, T.alE x.2 = 0 ∧ NdW x.2) → trT a = trT b → a = b := by
  intro a
  have pos : ∀ x : Nat × Nd, rowT x ≠ [] := fun x q => by
    unfold rowT at q
    simp at q
  induction a with
  | nil =>
    intro b _ _ e
    cases b with
    | nil => rfl
    | cons y b =>
      have e : ([] : List UInt8) = rowT y ++ trT b := e
      have := pos y
      cases hq : rowT y with
      | nil => exact absurd hq this
      | cons c r => rw [hq] at e; cases e
  | cons x a ih =>
    intro b ha hb e
    cases b with
    | nil =>
      have e : rowT x ++ trT a = ([] : List UInt8) := e
      have := pos x
      cases hq : rowT x with
      | nil => exact absurd hq this
      | cons c r => rw [hq] at e; cases e
    | cons y b =>
      have hx := ha x (List.mem_cons_self)
      have hy := hb y (List.mem_cons_self)
      obtain ⟨e1, e2⟩ := row_one hx.1 hy.1 hx.2 hy.2 (show rowT x ++ trT a = rowT y ++ trT b from e)
      rw [e1, ih b (fun z hz => ha z (List.mem_cons_of_mem _ hz)) (fun z hz => hb z (List.mem_cons_of_mem _ hz)) e2]
/-- Lines: so many line feeds. -/
theorem trT_lines : ∀ (a : Tr), (∀ x ∈ a, T.alE x.2 = 0 ∧ NdW x.2) → (trT a).countP (fun c => c == 10) = a.length := by
  intro a
  induction a with
  | nil => intro _; rfl
  | cons x a ih =>
    intro ha
    have hx := ha x (List.mem_cons_self)
    show (rowT x ++ trT a).countP _ = _
    rw [List.countP_append, ih (fun z hz => ha z (List.mem_cons_of_mem _ hz))]
    unfold rowT
    rw [List.countP_append]
    have : (List.replicate (2 * x.1) 32 ++ lnT x.2).countP (fun c => c == 10) = 0 := by
      rw [List.countP_eq_zero]
      intro c hc q
      exact row_no hx.1 hx.2 c hc (by simpa using q)
    rw [this, List.length_cons]
    show 0 + 1 + a.length = _
    omega
theorem al_in {L : List Nd} (hr : T.Rt L) : ∀ n ∈ L, T.alE n = 0 := fun n hn => by
  obtain ⟨j, hj, rfl⟩ := List.mem_iff_getElem.1 hn
  exact (T.er_ok (List.getElem?_eq_getElem hj) (hr.each j hj)).al
theorem tr_rows {L : List Nd} (hr : T.Rt L) (hw : ∀ n ∈ L, NdW n) : ∀ x ∈ trI L, T.alE x.2 = 0 ∧ NdW x.2 := fun x hx => ⟨al_in hr _ (tr_mem hr x hx), hw _ (tr_mem hr x hx)⟩
theorem tr_lines {L : List Nd} (hr : T.Rt L) (hw : ∀ n ∈ L, NdW n) : (trT (trI L)).countP (fun c => c == 10) = L.length := by
  rw [trT_lines _ (tr_rows hr hw), tr_len hr]
/-- Patterns that are not the same have trees that are not. -/
theorem tr_same {L M : List Nd} (hl : T.Rt L) (hm : T.Rt M) (hw : ∀ n ∈ L, NdW n) (hv : ∀ n ∈ M, NdW n) (e : trT (trI L) = trT (trI M)) : L = M :=
  tr_inj hl hm (trT_one _ _ (tr_rows hl hw) (tr_rows hm hv) e)
end Go.Proofs.YtnpifgcgjgddoaaDoor.N

namespace Go.Proofs.YtnpifgcgjgddoaaDoor.N
open Go.RowKit
/-- The text of the part that ends with a node. -/
def enX (L : List Nd) (k : Nat) : Ent := (shK L (k + 1))[0]?.getD e0
/-- The tree of the part that ends with a node. -/
def enR (L : List Nd) (k : Nat) : Tr := (trK L (k + 1))[0]?.getD []
theorem en_stack {L : List Nd} : ∀ k, k ≤ L.length → ∀ (i : Nat) (p : T.Pt), (T.run L k)[i]? = some p → (shK L k)[i]? = some (enX L p.2.1) := by
  intro k
  induction k with
  | zero => intro _ i p h; simp [T.run] at h
  | succ k ih =>
    intro hk i p h
    have hn : L[k]? = some L[k] := List.getElem?_eq_getElem (by omega)
    rw [T.run_succ] at h
    cases i with
    | zero =>
      have hp : T.pt L k = p := by simpa using h
      rw [← hp, show (T.pt L k).2.1 = k from T.mk_last L k _ _]
      unfold enX
      rw [shK_succ hn]
      rfl
    | succ i =>
      rw [List.getElem?_cons_succ, List.getElem?_drop, T.op_of hn] at h
      rw [shK_succ hn]
      unfold stepI
      rw [List.getElem?_cons_succ, List.getElem?_drop]
      exact ih (by omega) _ _ h
theorem er_stack {L : List Nd} : ∀ k, k ≤ L.length → ∀ (i : Nat) (p : T.Pt), (T.run L k)[i]? = some p → (trK L k)[i]? = some (enR L p.2.1) := by
  intro k
  induction k with
  | zero => intro _ i p h; simp [T.run] at h
  | succ k ih =>
    intro hk i p h
    have hn : L[k]? = some L[k] := List.getElem?_eq_getElem (by omega)
    rw [T.run_succ] at h
    cases i with
    | zero =>
      have hp : T.pt L k = p := by simpa using h
      rw [← hp, show (T.pt L k).2.1 = k from T.mk_last L k _ _]
      unfold enR
      rw [trK_succ hn]
      rfl
    | succ i =>
      rw [List.getElem?_cons_succ, List.getElem?_drop, T.op_of hn] at h
      rw [trK_succ hn]
      unfold stepT
      rw [List.getElem?_cons_succ, List.getElem?_drop]
      exact ih (by omega) _ _ h
/-- Where the parts of a node end: the only or the second one right ahead of it, the first one ahead of that. -/
theorem run_two {L : List Nd} {k : Nat} (hk : k ≤ L.length) (he : ∀ j, j < k → T.er L j = 0) : (∀ p, (T.run L k)[0]? = some p → p = T.pt L (k - 1) ∧ p.2.1 = k - 1 ∧ 1 ≤ k) ∧ (∀ p, (T.run L k)[1]? = some p → p = T.pt L ((T.pt L (k - 1)).1 - 1) ∧ p.2.1 = (T.pt L (k - 1)).1 - 1 ∧ 1 ≤ (T.pt L (k - 1)).1) := by
  have h := T.chn_run L k hk he
  cases hr : T.run L k with
  | nil => exact ⟨(fun p q => by cases q), (fun p q => by cases q)⟩
  | cons y r =>
    rw [hr] at h
    obtain ⟨h1, h2, h3, h4⟩ := h
    have hy : y.2.1 = k - 1 := by omega
    have hy2 : y = T.pt L (k - 1) := by rw [← hy]; exact h2
    refine ⟨fun p q => ?_, fun p q => ?_⟩
    · have : y = p := by simpa using q
      subst this
      exact ⟨hy2, hy, by omega⟩
    · rw [← hy2]
      cases r with
      | nil => cases q
      | cons x r =>
        have : x = p := by simpa using q
        subst this
        obtain ⟨g1, g2, g3, g4⟩ := h4
        have hx : x.2.1 = y.1 - 1 := by omega
        exact ⟨by rw [← hx]; exact g2, hx, by omega⟩
theorem en_node {L : List Nd} {k : Nat} {n : Nd} (hn : L[k]? = some n) (he : ∀ j, j ≤ k → T.er L j = 0) : enX L k = (hld n.op, nodeI n (if T.arN n.op = 2 then enX L ((T.pt L (k - 1)).1 - 1) else if T.arN n.op = 1 then enX L (k - 1) else ((shK L k)[0]?).getD e0) (if T.arN n.op = 0 then ((shK L k)[0]?).getD e0 else enX L (k - 1))) := by
  have hk : k < L.length := (List.getElem?_eq_some_iff.1 hn).1
  have hok := T.er_ok hn (he k (Nat.le_refl _))
  have har := hok.ar
  obtain ⟨r1, r2⟩ := run_two (Nat.le_of_lt hk) (fun j hj => he j (by omega))
  unfold enX
  rw [shK_succ hn]
  unfold stepI
  rw [List.getElem?_cons_zero, Option.getD_some]
  have s0 : 1 ≤ T.arN n.op → (shK L k)[0]? = some (enX L (k - 1)) := fun h => by
    have hq : (T.run L k)[0]? = some (T.run L k)[0] := List.getElem?_eq_getElem (by omega)
    have := en_stack k (Nat.le_of_lt hk) 0 _ hq
    rw [(r1 _ hq).2.1] at this
    exact this
  have s1 : T.arN n.op = 2 → (shK L k)[1]? = some (enX L ((T.pt L (k - 1)).1 - 1)) := fun h => by
    have hq : (T.run L k)[1]? = some (T.run L k)[1] := List.getElem?_eq_getElem (by omega)
    have := en_stack k (Nat.le_of_lt hk) 1 _ hq
    rw [(r2 _ hq).2.1] at this
    exact this
  by_cases a2 : T.arN n.op = 2
  · rw [if_pos a2, if_pos a2, if_neg (by omega), s0 (by omega), s1 a2]
    rfl
  · rw [if_neg a2, if_neg a2]
    by_cases a1 : T.arN n.op = 1
    · rw [if_pos a1, if_neg (by omega), s0 (by omega)]
      rfl
    · have := T.arN_le n.op
      rw [if_neg a1, if_pos (by omega)]
theorem er_node {L : List Nd} {k : Nat} {n : Nd} (hn : L[k]? = some n) (he : ∀ j, j ≤ k → T.er L j = 0) : enR L k = (0, n) :: (if T.arN n.op = 0 then [] else if T.arN n.op = 1 then upT (enR L (k - 1)) else upT (enR L ((T.pt L (k - 1)).1 - 1)) ++ upT (enR L (k - 1))) := by
  have hk : k < L.length := (List.getElem?_eq_some_iff.1 hn).1
  have hok := T.er_ok hn (he k (Nat.le_refl _))
  have har := hok.ar
  obtain ⟨r1, r2⟩ := run_two (Nat.le_of_lt hk) (fun j hj => he j (by omega))
  unfold enR
  rw [trK_succ hn]
  unfold stepT nodeT
  rw [List.getElem?_cons_zero, Option.getD_some]
  have s0 : 1 ≤ T.arN n.op → (trK L k)[0]? = some (enR L (k - 1)) := fun h => by
    have hq : (T.run L k)[0]? = some (T.run L k)[0] := List.getElem?_eq_getElem (by omega)
    have := er_stack k (Nat.le_of_lt hk) 0 _ hq
    rw [(r1 _ hq).2.1] at this
    exact this
  have s1 : T.arN n.op = 2 → (trK L k)[1]? = some (enR L ((T.pt L (k - 1)).1 - 1)) := fun h => by
    have hq : (T.run L k)[1]? = some (T.run L k)[1] := List.getElem?_eq_getElem (by omega)
    have := er_stack k (Nat.le_of_lt hk) 1 _ hq
    rw [(r2 _ hq).2.1] at this
    exact this
  by_cases a0 : T.arN n.op = 0
  · rw [if_pos a0, if_pos a0]
  · rw [if_neg a0, if_neg a0]
    by_cases a1 : T.arN n.op = 1
    · rw [if_pos a1, if_pos a1, if_neg (by omega), s0 (by omega)]
      rfl
    · have := T.arN_le n.op
      rw [if_neg a1, if_neg a1, if_pos (by omega), s0 (by omega), s1 (by omega)]
      rfl
/-- The whole pattern is the part that ends with its last node. -/
theorem sh_last {L : List Nd} (h : 0 < L.length) : shI L = (enX L (L.length - 1)).2 := by
  unfold shI enX
  rw [Nat.sub_add_cancel h]
theorem tr_last {L : List Nd} (h : 0 < L.length) : trI L = enR L (L.length - 1) := by
  unfold trI enR
  rw [Nat.sub_add_cancel h]
end Go.Proofs.YtnpifgcgjgddoaaDoor.N
