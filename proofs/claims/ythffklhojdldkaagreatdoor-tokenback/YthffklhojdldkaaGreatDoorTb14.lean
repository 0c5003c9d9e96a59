/- DERIVED. Plain mathematics and walks, laid together (14). -/
import Derived.Test.YthffklhojdldkaaGreatDoorTb13
namespace Go.Proofs.YthffklhojdldkaaGreatDoor
open Go.RowKit
theorem showP_any (t : Tk) (hr : riF t = true) (hb : TkB t) (w : World) (hg : GW w) : Calls Tryz.prog 18 #[tkG t] w fun e w' => e = .returned (.string (tkX t)) ∧ Below w.heap.size w w' := by
  obtain ⟨h1, h2, h3, h4, h5, h6⟩ := ri_nat hr
  have hs := txF_len h3
  have u0 := hb.u0
  have u1 := hb.u1
  have u2 := hb.u2
  have u3 := hb.u3
  have u4 := hb.u4
  obtain ⟨kd, nn, fr, en, tx, s0, s1, s2, s3⟩ := t
  unfold tkX tkG
  dsimp only at *
  clear hr hb
  by_cases n1 : kd = 1
  · rw [if_pos n1]; exact sh_1 _ _ _ _ _ _ _ _ _ n1 w hg
  rw [if_neg n1]
  by_cases n21 : kd = 21
  · rw [if_pos n21]; exact sh_21 _ _ _ _ _ _ _ _ _ n21 hs w hg
  rw [if_neg n21]
  by_cases n2 : kd = 2
  · rw [if_pos n2]; exact sh_2 _ _ _ _ _ _ _ _ _ n2 hs w hg
  rw [if_neg n2]
  by_cases n3 : kd = 3
  · rw [if_pos n3]; obtain ⟨x0, x1, x2, x3⟩ := mkS_wd s0 s1 s2 s3 ⟨u0, u1⟩ u2 u3 u4; exact sh_3 _ _ _ _ _ _ _ _ _ n3 _ x0 x1 x2 x3 w hg
  rw [if_neg n3]
  by_cases n28 : kd = 28
  · rw [if_pos n28]; exact sh_28 _ _ _ _ _ _ _ _ _ n28 hs w hg
  rw [if_neg n28]
  by_cases n5 : kd = 5
  · rw [if_pos n5]; rw [if_pos n5] at h5; have h7 := set5_le n5 h6; exact sh_5 _ _ _ _ _ _ _ _ _ nn.toNat s0.toNat n5 (by omega) (by omega) (by omega) (by omega) w hg
  rw [if_neg n5]
  by_cases n4 : kd = 4
  · rw [if_pos n4]; rw [if_neg n5] at h5; have h7 : gtK kd ≤ 999999 := gtK_le kd; exact sh_4 _ _ _ _ _ _ _ _ _ nn.toNat n4 (by omega) (by omega) w hg
  rw [if_neg n4]
  by_cases n13 : kd = 13
  · rw [if_pos n13]; rw [if_neg n5] at h5; have h7 : gtK kd ≤ 999999 := gtK_le kd; exact sh_13 _ _ _ _ _ _ _ _ _ nn.toNat n13 (by omega) (by omega) w hg
  rw [if_neg n13]
  by_cases n14 : kd = 14
  · rw [if_pos n14]; rw [if_neg n5] at h5; have h7 : gtK kd ≤ 999999 := gtK_le kd; exact sh_14 _ _ _ _ _ _ _ _ _ nn.toNat n14 (by omega) (by omega) w hg
  rw [if_neg n14]
  by_cases n15 : kd = 15
  · rw [if_pos n15]; rw [if_neg n5] at h5; have h7 : gtK kd ≤ 999999 := gtK_le kd; exact sh_15 _ _ _ _ _ _ _ _ _ nn.toNat n15 (by omega) (by omega) w hg
  rw [if_neg n15]
  by_cases n29 : kd = 29
  · rw [if_pos n29]; have h7 := sh_no kd nn fr en s0 s1 s2 s3 tx n1 n4 n2 n3 n28 n5 n13 n14 n15 n21 w hg; rw [show txO (sgOf kd) = ⟨#[37, 101]⟩ from by rw [n29]; rfl] at h7; exact h7
  rw [if_neg n29]
  by_cases n30 : kd = 30
  · rw [if_pos n30]; have h7 := sh_no kd nn fr en s0 s1 s2 s3 tx n1 n4 n2 n3 n28 n5 n13 n14 n15 n21 w hg; rw [show txO (sgOf kd) = ⟨#[37, 102]⟩ from by rw [n30]; rfl] at h7; exact h7
  rw [if_neg n30]
  have h7 := sh_no kd nn fr en s0 s1 s2 s3 tx n1 n4 n2 n3 n28 n5 n13 n14 n15 n21 w hg
  have h8 := sgOf_sgn kd.toNat (by omega) ⟨by omega, by omega, by omega, by omega, by omega, by omega⟩
  rw [show ((kd.toNat : Nat) : Int) = kd from by omega] at h8
  rw [h8] at h7
  exact h7
theorem sgn_len : ∀ k, k < 31 → (sgn k).length ≤ 2 := by decide
theorem tkX_len {t : Tk} (hr : riF t = true) (hb : TkB t) : (tkX t).size ≤ 2400 := by
  obtain ⟨h1, h2, h3, h4, h5, h6⟩ := ri_nat hr
  have hs := txF_len h3
  obtain ⟨kd, nn, fr, en, tx, s0, s1, s2, s3⟩ := t
  unfold tkX
  dsimp only at *
  by_cases n1 : kd = 1
  · rw [if_pos n1]; omega
  rw [if_neg n1]
  by_cases n21 : kd = 21
  · rw [if_pos n21, ByteArray.size_append]; have := gnm_len tx hs; show 2 + _ ≤ _; omega
  rw [if_neg n21]
  by_cases n2 : kd = 2
  · rw [if_pos n2, Q.asText_size]; have := qT_len tx; omega
  rw [if_neg n2]
  by_cases n3 : kd = 3
  · rw [if_pos n3, txO_size]; have := shT_len (mkS s0 s1 s2 s3); omega
  rw [if_neg n3]
  by_cases n28 : kd = 28
  · rw [if_pos n28, ByteArray.size_append]; show 1 + _ ≤ _; omega
  rw [if_neg n28]
  by_cases n5 : kd = 5
  · rw [if_pos n5]
    rw [if_pos n5] at h5
    have h7 := set5_le n5 h6
    have a1 := dgT_len 16 (by omega) 5 nn.toNat (by omega)
    have a2 := dgT_len 16 (by omega) 5 s0.toNat (by omega)
    unfold rnT
    rw [ByteArray.size_append, ByteArray.size_append, ByteArray.size_append, ByteArray.size_append, txO_size, txO_size]
    show 3 + _ + 1 + _ + 1 ≤ _
    omega
  rw [if_neg n5]
  rw [if_neg n5] at h5
  have h7 := gtK_le kd
  have a1 := dgT_len 10 (by omega) 5 nn.toNat (by omega)
  by_cases n4 : kd = 4
  · rw [if_pos n4, txO_size]; omega
  rw [if_neg n4]
  by_cases n13 : kd = 13
  · rw [if_pos n13, ByteArray.size_append, txO_size]; show 1 + _ ≤ _; omega
  rw [if_neg n13]
  by_cases n14 : kd = 14
  · rw [if_pos n14, ByteArray.size_append, txO_size]; show 2 + _ ≤ _; omega
  rw [if_neg n14]
  by_cases n15 : kd = 15
  · rw [if_pos n15, ByteArray.size_append, txO_size]; show 2 + _ ≤ _; omega
  rw [if_neg n15]
  by_cases n29 : kd = 29
  · rw [if_pos n29]; decide
  rw [if_neg n29]
  by_cases n30 : kd = 30
  · rw [if_pos n30]; decide
  rw [if_neg n30, txO_size]
  have := sgn_len kd.toNat (by omega)
  omega
/-- The texts of the first tokens, a blank between any two. -/
def jT (L : List Tk) : Nat → List UInt8
  | 0 => []
  | k + 1 => match L[k]? with
    | some t => jT L k ++ (if k = 0 then [] else [32]) ++ (tkX t).data.toList
    | none => jT L k
theorem jT_some {L : List Tk} {k : Nat} {t : Tk} (h : L[k]? = some t) : jT L (k + 1) = jT L k ++ (if k = 0 then [] else [32]) ++ (tkX t).data.toList := by
  rw [jT, h]
theorem jT_le (L : List Tk) (k : Nat) : (jT L k).length ≤ (jT L (k + 1)).length := by
  conv => rhs; rw [jT]
  split
  · rw [List.length_append, List.length_append]; omega
  · exact Nat.le_refl _
theorem jT_mono (L : List Tk) (k : Nat) : ∀ d, (jT L k).length ≤ (jT L (k + d)).length := by
  intro d
  induction d with
  | zero => exact Nat.le_refl _
  | succ d ih => exact Nat.le_trans ih (jT_le L (k + d))
/-- Text's answer. -/
def txR (L : List Tk) : ByteArray × Int := if (ckR L).2 = 0 then (if 65536 < (jT L L.length).length then (⟨#[]⟩, 2) else (txO (jT L L.length), 0)) else (⟨#[]⟩, (ckR L).2)
theorem txR_bad {L : List Tk} (h : ¬ (ckR L).2 = 0) : txR L = (⟨#[]⟩, (ckR L).2) := by unfold txR; rw [if_neg h]
theorem txR_long {L : List Tk} (h : (ckR L).2 = 0) {k : Nat} (hk : k ≤ L.length) (h2 : 65536 < (jT L k).length) : txR L = (⟨#[]⟩, 2) := by
  have h3 := jT_mono L k (L.length - k)
  rw [show k + (L.length - k) = L.length from by omega] at h3
  unfold txR
  rw [if_pos h, if_pos (by omega)]
theorem txR_ok {L : List Tk} (h : (ckR L).2 = 0) (h2 : ¬ 65536 < (jT L L.length).length) : txR L = (txO (jT L L.length), 0) := by
  unfold txR
  rw [if_pos h, if_neg h2]
theorem ckR_all {L : List Tk} (h : (ckR L).2 = 0) : L.length ≤ 4096 ∧ ∀ t ∈ L, riF t = true := by
  unfold ckR at h
  split at h
  · cases h
  · exact ⟨by omega, ckGo_all L 0 h⟩
theorem bcells (a b : List UInt8) : Lib.byteCells (a ++ b) = Lib.byteCells a ++ Lib.byteCells b := by unfold Lib.byteCells; rw [List.map_append]
theorem scells (s : ByteArray) : Lib.strCells s = Lib.byteCells s.data.toList := rfl
theorem ret_te {p : ByteArray × Int} {a : ByteArray} {b : Int} (h : p = (a, b)) : Ending.returned (.tuple #[.string a, .int .i64 b]) = .returned (.tuple #[.string p.1, .int .i64 p.2]) := by rw [h]
end Go.Proofs.YthffklhojdldkaaGreatDoor

namespace Go.Proofs.YthffklhojdldkaaGreatDoor
open Go.RowKit
def lkT (t : Tk) : Tk := { t with fr := 0, en := 0 }
theorem lk_get {L M : List Tk} (h : L.map lkT = M.map lkT) {k : Nat} {t : Tk} (hk : L[k]? = some t) : ∃ u, M[k]? = some u ∧ lkT u = lkT t := by
  have h1 : (L.map lkT)[k]? = some (lkT t) := by rw [List.getElem?_map, hk]; rfl
  rw [h, List.getElem?_map] at h1
  cases hm : M[k]? with
  | none => rw [hm] at h1; cases h1
  | some u => rw [hm] at h1; exact ⟨u, rfl, by simpa using h1⟩
end Go.Proofs.YthffklhojdldkaaGreatDoor

namespace Go.Proofs.YthffklhojdldkaaGreatDoor
open Go.RowKit
theorem emp_eq {s : ByteArray} (h : (s.toList == []) = true) : s = ⟨#[]⟩ := emp_of (by have := emp_size h; omega)
theorem seF_zero {k s0 s1 s2 s3 : Int} {s : ByteArray} (n3 : ¬ k = 3) (n28 : ¬ k = 28) (n5 : ¬ k = 5) (h : seF k s s0 s1 s2 s3 = true) : s0 = 0 ∧ s1 = 0 ∧ s2 = 0 ∧ s3 = 0 := by
  unfold seF at h
  rw [if_neg n3, if_neg n28, if_neg n5] at h
  simpa using h
theorem txF_zero {k : Int} {s : ByteArray} (n1 : ¬ k = 1) (n21 : ¬ k = 21) (n2 : ¬ k = 2) (n28 : ¬ k = 28) (h : txF k s = true) : s = ⟨#[]⟩ := by
  unfold txF at h
  rw [if_neg n1, if_neg n21, if_neg n2, if_neg n28] at h
  exact emp_eq h
theorem aln_of {t : Tk} (hr : riF t = true) (hb : TkB t) : Aln (tkX t) t.kd t.nn t.tx t.s0 t.s1 t.s2 t.s3 := by
  obtain ⟨h1, h2, h3, h4, h5, h6⟩ := ri_nat hr
  have hs := txF_len h3
  have u0 := hb.u0
  have u1 := hb.u1
  have u2 := hb.u2
  have u3 := hb.u3
  have u4 := hb.u4
  obtain ⟨kd, nn, fr, en, tx, s0, s1, s2, s3⟩ := t
  unfold tkX
  dsimp only at *
  clear hr hb
  by_cases n1 : kd = 1
  · subst n1
    obtain ⟨rfl, rfl, rfl, rfl⟩ := seF_zero (by omega) (by omega) (by omega) h6
    obtain rfl : nn = 0 := by rw [if_neg (by omega)] at h5; have : gtK 1 = 0 := rfl; omega
    rw [if_pos rfl]
    exact al_name h3
  rw [if_neg n1]
  by_cases n21 : kd = 21
  · subst n21
    obtain ⟨rfl, rfl, rfl, rfl⟩ := seF_zero (by omega) (by omega) (by omega) h6
    obtain rfl : nn = 0 := by rw [if_neg (by omega)] at h5; have : gtK 21 = 0 := rfl; omega
    rw [if_pos rfl]
    unfold txF at h3
    rw [if_neg (by omega), if_pos rfl] at h3
    rcases Bool.or_eq_true_iff.1 h3 with h | h
    · obtain rfl := emp_eq h
      exact al_grp0
    · have := (isNm_len h).1
      unfold gnm
      rw [if_neg (by omega)]
      exact al_grp h
  rw [if_neg n21]
  by_cases n2 : kd = 2
  · subst n2
    obtain ⟨rfl, rfl, rfl, rfl⟩ := seF_zero (by omega) (by omega) (by omega) h6
    obtain rfl : nn = 0 := by rw [if_neg (by omega)] at h5; have : gtK 2 = 0 := rfl; omega
    rw [if_pos rfl]
    exact al_lit tx hs
  rw [if_neg n2]
  by_cases n3 : kd = 3
  · subst n3
    obtain rfl := txF_zero (by omega) (by omega) (by omega) (by omega) h3
    obtain rfl : nn = 0 := by rw [if_neg (by omega)] at h5; have : gtK 3 = 0 := rfl; omega
    rw [if_pos rfl]
    obtain ⟨x0, x1, x2, x3⟩ := mkS_wd s0 s1 s2 s3 ⟨u0, u1⟩ u2 u3 u4
    have h := al_cls (mkS s0 s1 s2 s3)
    rw [x0, x1, x2, x3] at h
    exact h
  rw [if_neg n3]
  by_cases n28 : kd = 28
  · subst n28
    obtain rfl : nn = 0 := by rw [if_neg (by omega)] at h5; have : gtK 28 = 0 := rfl; omega
    rw [if_pos rfl]
    have hsz : tx.size = 1 := by
      unfold txF at h3
      rw [if_neg (by omega), if_neg (by omega), if_neg (by omega), if_pos rfl] at h3
      have := of_decide_eq_true h3
      omega
    obtain ⟨c, rfl⟩ : ∃ c, tx = tx8 [c] := by
      obtain ⟨⟨l⟩⟩ := tx
      match l, hsz with
      | [c], _ => exact ⟨c, rfl⟩
    have hc : chr (tx8 [c]) 0 = (c.toNat : Int) := by rw [chr_tx]; rfl
    unfold seF at h6
    rw [if_neg (by omega), if_pos rfl, hc, Int.toNat_natCast] at h6
    simp only [Bool.and_eq_true, beq_iff_eq] at h6
    obtain ⟨q, rfl, rfl, rfl, rfl⟩ := h6
    exact al_pct c q
  rw [if_neg n28]
  obtain rfl := txF_zero n1 n21 n2 n28 h3
  by_cases n5 : kd = 5
  · subst n5
    have h7 := set5_le rfl h6
    rw [if_pos rfl] at h5 ⊢
    unfold seF at h6
    rw [if_neg (by omega), if_neg (by omega), if_pos rfl] at h6
    simp only [Bool.and_eq_true, beq_iff_eq] at h6
    obtain ⟨_, _, rfl, rfl, rfl⟩ := h6
    have h := al_pts nn.toNat s0.toNat (by omega) (by omega)
    rw [show ((nn.toNat : Nat) : Int) = nn from by omega, show ((s0.toNat : Nat) : Int) = s0 from by omega] at h
    exact h
  rw [if_neg n5] at h5 ⊢
  obtain ⟨rfl, rfl, rfl, rfl⟩ := seF_zero n3 n28 n5 h6
  by_cases n4 : kd = 4
  · subst n4
    rw [if_pos rfl]
    have hg : gtK 4 = 999999 := rfl
    have h := al_num nn.toNat (by omega)
    rw [show ((nn.toNat : Nat) : Int) = nn from by omega] at h
    exact h
  rw [if_neg n4]
  by_cases n13 : kd = 13
  · subst n13
    rw [if_pos rfl]
    have hg : gtK 13 = 50 := rfl
    have h := al_cnt [94] 13 nn.toNat (by omega) (.inl ⟨rfl, rfl⟩)
    rw [show ((nn.toNat : Nat) : Int) = nn from by omega] at h
    rw [show (⟨#[94]⟩ ++ txO (dgT 10 nn.toNat) : ByteArray) = tx8 ([94] ++ dgT 10 nn.toNat) from by unfold txO; apply ByteArray.ext; simp]
    exact h
  rw [if_neg n13]
  by_cases n14 : kd = 14
  · subst n14
    rw [if_pos rfl]
    have hg : gtK 14 = 50 := rfl
    have h := al_cnt [94, 43] 14 nn.toNat (by omega) (.inr (.inl ⟨rfl, rfl⟩))
    rw [show ((nn.toNat : Nat) : Int) = nn from by omega] at h
    rw [show (⟨#[94, 43]⟩ ++ txO (dgT 10 nn.toNat) : ByteArray) = tx8 ([94, 43] ++ dgT 10 nn.toNat) from by unfold txO; apply ByteArray.ext; simp]
    exact h
  rw [if_neg n14]
  by_cases n15 : kd = 15
  · subst n15
    rw [if_pos rfl]
    have hg : gtK 15 = 50 := rfl
    have h := al_cnt [94, 45] 15 nn.toNat (by omega) (.inr (.inr ⟨rfl, rfl⟩))
    rw [show ((nn.toNat : Nat) : Int) = nn from by omega] at h
    rw [show (⟨#[94, 45]⟩ ++ txO (dgT 10 nn.toNat) : ByteArray) = tx8 ([94, 45] ++ dgT 10 nn.toNat) from by unfold txO; apply ByteArray.ext; simp]
    exact h
  rw [if_neg n15]
  have hg : gtK kd = 0 := by unfold gtK; rw [if_neg n4, if_neg (by omega)]
  obtain rfl : nn = 0 := by omega
  have h := al_sig kd.toNat (by omega) ⟨by omega, by omega, by omega, by omega, by omega, by omega, by omega, by omega, by omega, by omega, by omega⟩
  rw [show ((kd.toNat : Nat) : Int) = kd from by omega] at h
  by_cases n29 : kd = 29
  · subst n29; rw [if_pos rfl]; exact h
  rw [if_neg n29]
  by_cases n30 : kd = 30
  · subst n30; rw [if_pos rfl]; exact h
  rw [if_neg n30]
  unfold sgX at h
  rw [if_neg (by omega), if_neg (by omega)] at h
  exact h
/-- Where a right token's text stands, with a blank or nothing behind it, the token is read. -/
theorem tok_there {t : Tk} (hr : riF t = true) (hb : TkB t) {s : ByteArray} {b : Nat} (ha : Ag (tkX t) 0 s b (tkX t).size) (he : stopB (chr s (b + (tkX t).size)) = true) : 0 < (tkX t).size ∧ gapN s b = b ∧ b < s.size ∧ b + (tkX t).size ≤ s.size ∧ oneP s b = .inl (mvT t b (tkX t).size) := by
  have h := aln_of hr hb
  have h1 := start_move h.p h.b.b h.b.c h.o (m := (tkX t).size) (by show ((tkX t).size : Int) = ((0 + (tkX t).size : Nat) : Int); omega) ha
  have h2 := tok_move h.p h.o (m := (tkX t).size) (by show ((tkX t).size : Int) = ((0 + (tkX t).size : Nat) : Int); omega) ha (.inl he)
  exact ⟨h.p, h1.1, h1.2, ha.in h.p (by omega), h2⟩
theorem jT_rest (L : List Tk) : ∀ (d k : Nat), k + d = L.length → ∃ R, jT L L.length = jT L k ++ R ∧ (0 < k → R = [] ∨ ∃ R', R = 32 :: R') := by
  intro d
  induction d with
  | zero => intro k hk; exact ⟨[], by rw [List.append_nil, ← hk]; rfl, fun _ => .inl rfl⟩
  | succ d ih =>
    intro k hk
    have hlt : k < L.length := by omega
    obtain ⟨R, h1, _⟩ := ih (k + 1) (by omega)
    rw [jT_some (List.getElem?_eq_getElem hlt)] at h1
    refine ⟨(if k = 0 then [] else [32]) ++ (tkX L[k]).data.toList ++ R, by rw [h1]; simp, fun h0 => .inr ⟨(tkX L[k]).data.toList ++ R, ?_⟩⟩
    rw [if_neg (by omega)]
    rfl
theorem gap_end (s : ByteArray) : gapN s s.size = s.size := by rw [gapN_unf, if_neg (by omega)]
/-- All tokens' texts, with blanks between, are read as the tokens. -/
theorem chn_join (L : List Tk) (hr : ∀ t ∈ L, riF t = true) (hb : ∀ t ∈ L, TkB t) : ∀ (d k : Nat), k + d = L.length → ∃ M, Chn (tx8 (jT L L.length)) (jT L k).length M ∧ M.map lkT = (L.drop k).map lkT := by
  intro d
  induction d with
  | zero =>
    intro k hk
    obtain rfl : k = L.length := by omega
    refine ⟨[], ?_, by rw [List.drop_length]⟩
    show gapN _ _ = _
    exact gap_end (tx8 (jT L L.length))
  | succ d ih =>
    intro k hk
    have hlt : k < L.length := by omega
    obtain ⟨M, hM, hmap⟩ := ih (k + 1) (by omega)
    obtain ⟨R, hR, hR2⟩ := jT_rest L d (k + 1) (by omega)
    have hj := jT_some (List.getElem?_eq_getElem hlt)
    have ht1 := hr _ (List.getElem_mem hlt)
    have ht2 := hb _ (List.getElem_mem hlt)
    have hdrop : L.drop k = L[k] :: L.drop (k + 1) := List.drop_eq_getElem_cons hlt
    have hX : tkX L[k] = tx8 (tkX L[k]).data.toList := by apply ByteArray.ext; simp
    have hXs : (tkX L[k]).size = (tkX L[k]).data.toList.length := rfl
    generalize L[k] = t at *
    generalize hS : (tx8 (jT L L.length)) = s at *
    generalize hp : jT L k ++ (if k = 0 then [] else [32]) = p at *
    have hs : s = tx8 (p ++ (tkX t).data.toList ++ R) := by rw [← hS, hR, hj]
    have ha : Ag (tkX t) 0 s p.length (tkX t).size := by
      have := ag_tx p (tkX t).data.toList R
      rw [← hX, ← hXs, ← hs] at this
      exact this
    have hlen : (jT L (k + 1)).length = p.length + (tkX t).size := by rw [hj, List.length_append, hXs]
    have hstop : stopB (chr s (p.length + (tkX t).size)) = true := by
      have h0 := at0 (p ++ (tkX t).data.toList) R
      rw [← hs, List.length_append, ← hXs] at h0
      rw [h0]
      rcases hR2 (by omega) with rfl | ⟨R', rfl⟩
      · decide
      · rfl
    obtain ⟨q1, q2, q3, q4, q5⟩ := tok_there ht1 ht2 ha hstop
    have hgap : gapN s (jT L k).length = p.length := by
      by_cases h0 : k = 0
      · rw [if_pos h0, List.append_nil] at hp
        rw [hp]; exact q2
      · rw [if_neg h0] at hp
        have hpl : p.length = (jT L k).length + 1 := by rw [← hp, List.length_append]; rfl
        have hc : chr s (jT L k).length = 32 := by
          have h1 := at0 (jT L k) ([32] ++ (tkX t).data.toList ++ R)
          rw [show jT L k ++ ([32] ++ (tkX t).data.toList ++ R) = p ++ (tkX t).data.toList ++ R from by rw [← hp]; simp, ← hs] at h1
          exact h1
        rw [gapN_unf, if_pos (by omega), hc, if_neg (by omega), if_pos (by omega), ← hpl]
        exact q2
    refine ⟨mvT t p.length (tkX t).size :: M, ⟨by rw [hgap]; exact q3, by rw [hgap]; exact q5, p.length + (tkX t).size, rfl, by rw [hgap]; omega, q4, by rw [← hlen]; exact hM⟩, ?_⟩
    rw [List.map_cons, hmap, hdrop, List.map_cons]
    rfl
theorem lex_back (L : List Tk) (hr : ∀ t ∈ L, riF t = true) (hb : ∀ t ∈ L, TkB t) (h : (jT L L.length).length ≤ 65536) : ∃ M, lexR (oneP (txO (jT L L.length))) (txO (jT L L.length)) = .inl M ∧ M.map lkT = L.map lkT := by
  obtain ⟨M, h1, h2⟩ := chn_join L hr hb L.length 0 (by omega)
  exact ⟨M, lex_of_chn (by show (jT L L.length).length ≤ _; exact h) h1, by rw [h2, List.drop_zero]⟩
end Go.Proofs.YthffklhojdldkaaGreatDoor

namespace Go.Proofs.YthffklhojdldkaaGreatDoor
open Go.RowKit
/-- Right, and of the sizes that a machine holds. -/
structure Rgt (t : Tk) : Prop where
  r : riF t = true
  b : TkB t
theorem Rgt.plain {k n a e : Int} {tx : ByteArray} (h : riF ⟨k, n, a, e, tx, 0, 0, 0, 0⟩ = true) (hn : n ≤ 1114111) : Rgt ⟨k, n, a, e, tx, 0, 0, 0, 0⟩ := ⟨h, ⟨by show n < _; omega, by show (0 : Int) ≤ 0; omega, by show (0 : Int) < _; omega, by show (0 : Int) ≤ 0 ∧ (0 : Int) < _; omega, by show (0 : Int) ≤ 0 ∧ (0 : Int) < _; omega, by show (0 : Int) ≤ 0 ∧ (0 : Int) < _; omega⟩⟩
theorem wd_rng (x : BitVec 256) (i : Nat) : 0 ≤ wd x i ∧ wd x i < 18446744073709551616 := by
  unfold wd
  have := (x.extractLsb' (64 * i) 64).isLt
  omega
theorem nm_ext {s : ByteArray} {b : Nat} (hh : hdB (chr s b) = true) (hle : ¬ 32 < spN nmB s b - b) : isNm (s.extract b (spN nmB s b)) = true := by
  have hnm : nmB (chr s b) = true := by unfold nmB; rw [hh]; rfl
  obtain ⟨h1, h2⟩ := spN_next (P := nmB) (by decide) hnm
  have h3 := spN_ge nmB s (by decide) (b + 1)
  have h4 := spN_le nmB s (by decide) b (by omega)
  obtain ⟨_, _, h6, h7⟩ := spN_spec nmB s (by decide) _ b rfl
  generalize spN nmB s b = e at *
  have hsz : (s.extract b e).size = e - b := by rw [ByteArray.size_extract]; omega
  have hc : ∀ k, k < e - b → chr (s.extract b e) k = chr s (b + k) := fun k hk => chr_ext (by omega) h4
  unfold isNm
  rw [hsz, decide_eq_true (by omega), decide_eq_true (by omega), hc 0 (by omega), Nat.add_zero, hh]
  have hr : spN nmB (s.extract b e) 0 = e - b := by
    refine spN_eq (by decide) (by omega) (fun k _ hk => ?_) ?_
    · rw [hc k hk]; exact h7 (b + k) (by omega) (by omega)
    · rw [chr_out (by rw [hsz]; omega)]; decide
  rw [hr]
  simp
theorem wthR_ge0 (s : ByteArray) (i : Nat) (base : Int) (hb : 0 ≤ base) : ∀ k, (∀ j, j < k → 0 ≤ hexV (chr s (i + j))) → 0 ≤ wthR s i base k := by
  intro k
  induction k with
  | zero => intro _; exact Int.le_refl _
  | succ k ih =>
    intro h
    have h1 := ih (fun j hj => h j (by omega))
    have h2 := h k (by omega)
    have h3 := Int.mul_nonneg h1 hb
    show 0 ≤ wthR s i base k * base + hexV (chr s (i + k))
    omega
theorem dg_hex {c : Int} (h : dgB c = true) : 0 ≤ hexV c := by
  unfold dgB at h
  simp only [Bool.and_eq_true, decide_eq_true_eq] at h
  unfold hexV
  rw [if_pos h]
  omega
theorem hx_hex {c : Int} (h : hxB c = true) : 0 ≤ hexV c := by
  unfold hxB at h
  rcases Bool.or_eq_true_iff.1 h with h | h
  · exact dg_hex h
  · simp only [Bool.and_eq_true, decide_eq_true_eq] at h
    unfold hexV
    rw [if_neg (by omega), if_pos h]
    omega
theorem numR_bd {s : ByteArray} {d : Nat} {m n : Int} (h : numR s d m = .inl n) : 0 ≤ n ∧ n ≤ m := by
  unfold numR at h
  split at h
  · cases h
  split at h
  · cases h
  · next q1 q2 =>
    cases h
    obtain ⟨_, _, _, h7⟩ := spN_spec dgB s (by decide) _ d rfl
    refine ⟨wthR_ge0 _ _ _ (by omega) _ (fun j hj => dg_hex (h7 (d + j) (by omega) (by omega))), ?_⟩
    omega
theorem nmR_rgt {s : ByteArray} {b d : Nat} {k : Int} {t : Tk} (hk : k = 4 ∨ k = 13 ∨ k = 14 ∨ k = 15) (h : nmR s b d k = .inl t) : Rgt t := by
  unfold nmR at h
  cases hn : numR s d (gtK k) with
  | inr e => rw [hn] at h; cases h
  | inl n =>
    rw [hn] at h
    cases h
    obtain ⟨h1, h2⟩ := numR_bd hn
    have h3 := gtK_le k
    refine Rgt.plain ?_ (by omega)
    have em : ((⟨#[]⟩ : ByteArray).toList == []) = true := by rw [ByteArray.toList_eq]; rfl
    unfold riF txF nbF seF
    rcases hk with rfl | rfl | rfl | rfl <;> simp [] <;> omega
theorem litGo_rgt (s : ByteArray) (q : Int) (b : Nat) : ∀ (f : Nat) (out : List Int) (i : Nat) (t : Tk), litGo s q b f out i = .inl t → Rgt t := by
  intro f
  induction f with
  | zero => intro out i t h; rw [litGo] at h; cases h
  | succ f ih =>
    intro out i t h
    rw [litGo] at h
    split at h
    · cases h
    split at h
    · split at h
      · cases h
      · next q2 =>
        cases h
        refine Rgt.plain ?_ (by omega)
        unfold riF txF nbF seF gtK
        have := asText_size out
        simp
        omega
    split at h
    · cases h
    split at h
    · exact ih _ _ _ h
    · split at h
      · cases h
      · exact ih _ _ _ h
theorem ri_name {a e : Int} {s : ByteArray} (h : isNm s = true) : riF ⟨1, 0, a, e, s, 0, 0, 0, 0⟩ = true := by
  unfold riF txF nbF seF gtK
  simp [h]
theorem ri_grp {a e : Int} {s : ByteArray} (h : isNm s = true) : riF ⟨21, 0, a, e, s, 0, 0, 0, 0⟩ = true := by
  unfold riF txF nbF seF gtK
  simp [h]
theorem ri_grp0 {a e : Int} : riF ⟨21, 0, a, e, ⟨#[]⟩, 0, 0, 0, 0⟩ = true := by
  have em : ((⟨#[]⟩ : ByteArray).toList == []) = true := by rw [ByteArray.toList_eq]; rfl
  unfold riF txF nbF seF gtK
  simp []
theorem grpP_rgt {s : ByteArray} {b d : Nat} {t : Tk} (h : grpP s b d = .inl t) : Rgt t := by
  unfold grpP at h
  split at h
  · next hh =>
    split at h
    · cases h
    · next hl =>
      split at h
      · cases h; exact Rgt.plain (ri_grp (nm_ext hh hl)) (by omega)
      · cases h; exact Rgt.plain ri_grp0 (by omega)
  · cases h; exact Rgt.plain ri_grp0 (by omega)
def sgK (k : Int) : Bool := k == 0 || k == 13 || k == 14 || k == 15 || k == 21 || k == 29 || k == 30 || k == 27 || (decide (6 ≤ k) && decide (k ≤ 12)) || (decide (16 ≤ k) && decide (k ≤ 20)) || (decide (22 ≤ k) && decide (k ≤ 26))
theorem sgC_in (c0 c1 : Int) : sgK (sgC c0 c1).1 = true := by
  have h : ∀ l : List (Int × List UInt8), (∀ p ∈ l, sgK p.1 = true) → sgK (sgGC c0 c1 l).1 = true := by
    intro l
    induction l with
    | nil => intro _; rfl
    | cons p l ih =>
      intro h
      rw [sgGC]
      split
      · exact h p (List.mem_cons_self ..)
      · exact ih (fun q hq => h q (List.mem_cons_of_mem _ hq))
  rw [← sgGC_C]
  exact h sgTab (by decide)
theorem ri_sig {k a e : Int} (h : sgK k = true) (h0 : ¬ k = 0) (h1 : ¬ (k = 13 ∨ k = 14 ∨ k = 15)) (h2 : ¬ k = 21) : riF ⟨k, 0, a, e, ⟨#[]⟩, 0, 0, 0, 0⟩ = true := by
  have em : ((⟨#[]⟩ : ByteArray).toList == []) = true := by rw [ByteArray.toList_eq]; rfl
  simp only [sgK, Bool.or_eq_true, Bool.and_eq_true, beq_iff_eq, decide_eq_true_eq] at h
  unfold riF txF nbF seF gtK
  dsimp only
  rw [if_neg (show ¬ k = 1 by omega), if_neg (show ¬ k = 21 by omega), if_neg (show ¬ k = 2 by omega), if_neg (show ¬ k = 28 by omega), if_neg (show ¬ k = 5 by omega), if_neg (show ¬ k = 4 by omega), if_neg h1, if_neg (show ¬ k = 3 by omega), if_neg (show ¬ k = 28 by omega), if_neg (show ¬ k = 5 by omega), em, decide_eq_true (show 1 ≤ k by omega), decide_eq_true (show k ≤ 30 by omega)]
  rfl
theorem sigP_rgt {s : ByteArray} {b : Nat} {t : Tk} (h : sigP s b = .inl t) : Rgt t := by
  have hi := sgC_in (chr s b) (chr s (b + 1))
  rw [← sgAt_C] at hi
  unfold sigP at h
  split at h
  · cases h
  split at h
  · next q => exact nmR_rgt (.inr q) h
  split at h
  · exact grpP_rgt h
  · next h0 h1 h2 => cases h; exact Rgt.plain (ri_sig hi h0 h1 h2) (by omega)
theorem ri_pts {n m a e : Int} (h0 : 0 ≤ n) (h1 : n ≤ m) (h2 : m ≤ 1114111) : Rgt ⟨5, n, a, e, ⟨#[]⟩, m, 0, 0, 0⟩ := by
  have em : ((⟨#[]⟩ : ByteArray).toList == []) = true := by rw [ByteArray.toList_eq]; rfl
  refine ⟨?_, ⟨by show n < _; omega, by show 0 ≤ m; omega, by show m < _; omega, by show (0 : Int) ≤ 0 ∧ (0 : Int) < _; omega, by show (0 : Int) ≤ 0 ∧ (0 : Int) < _; omega, by show (0 : Int) ≤ 0 ∧ (0 : Int) < _; omega⟩⟩
  unfold riF txF nbF seF
  simp []
  omega
theorem ptP_rng {s : ByteArray} {a : Nat} (h : (ptP s a).2.2 = true) : 0 ≤ (ptP s a).1 ∧ (ptP s a).1 ≤ 1114111 := by
  unfold ptP at h ⊢
  split at h
  · cases h
  · next q =>
    rw [if_neg q]
    obtain ⟨_, _, _, h7⟩ := spN_spec hxB s (by decide) _ a rfl
    exact ⟨wthR_ge0 _ _ _ (by omega) _ (fun j hj => hx_hex (h7 (a + j) (by omega) (by omega))), of_decide_eq_true h⟩
theorem ptsP_rgt {s : ByteArray} {b : Nat} {t : Tk} (h : ptsP s b = .inl t) : Rgt t := by
  unfold ptsP at h
  split at h
  · cases h
  next q1 =>
  have p1 := ptP_rng (s := s) (a := b + 3) (by simpa using q1)
  split at h
  · split at h
    · cases h
    next q2 =>
    have p2 := ptP_rng (s := s) (a := (ptP s (b + 3)).2.1 + 1) (by
      by_cases q : (ptP s ((ptP s (b + 3)).2.1 + 1)).2.2 = false
      · exact absurd (.inl q) q2
      · simpa using q)
    split at h
    · cases h; exact ri_pts p1.1 (by omega) p2.2
    · cases h
  · split at h
    · cases h; exact ri_pts p1.1 (Int.le_refl _) p1.2
    · cases h
theorem oneP_rgt {s : ByteArray} {b : Nat} {t : Tk} (_hb : b < s.size) (h : oneP s b = .inl t) : Rgt t := by
  unfold oneP at h
  split at h
  · next hh =>
    unfold nameR at h
    split at h
    · cases h
    · next hl => cases h; exact Rgt.plain (ri_name (nm_ext hh hl)) (by omega)
  split at h
  · exact nmR_rgt (.inl rfl) h
  split at h
  · exact litGo_rgt _ _ _ _ _ _ _ h
  split at h
  · cases hr : rdRead s b with
    | inr p =>
      rw [hr, clT] at h
      split at h <;> cases h
    | inl p =>
      rw [hr] at h
      cases h
      have em : ((⟨#[]⟩ : ByteArray).toList == []) = true := by rw [ByteArray.toList_eq]; rfl
      refine ⟨?_, ⟨by show (0 : Int) < _; omega, (wd_rng _ _).1, (wd_rng _ _).2, wd_rng _ _, wd_rng _ _, wd_rng _ _⟩⟩
      unfold riF txF nbF seF gtK
      simp []
  split at h
  · unfold pctP at h
    split at h
    · exact ptsP_rgt h
    split at h
    · exact sigP_rgt h
    split at h
    · next q =>
      cases h
      obtain ⟨q1, q2⟩ := q
      refine ⟨?_, ⟨by show (0 : Int) < _; omega, (wd_rng _ _).1, (wd_rng _ _).2, wd_rng _ _, wd_rng _ _, wd_rng _ _⟩⟩
      have hsz : (s.extract (b + 1) (b + 2)).size = 1 := by rw [ByteArray.size_extract]; omega
      have hc : chr (s.extract (b + 1) (b + 2)) 0 = chr s (b + 1) := by rw [chr_ext (by omega) (by omega)]
      unfold riF txF nbF seF gtK
      dsimp only
      rw [hc, hsz, q2]
      simp
    · cases h
  · exact sigP_rgt h
theorem chn_rgt (s : ByteArray) : ∀ (l : List Tk) (i : Nat), Chn s i l → ∀ t ∈ l, Rgt t := by
  intro l
  induction l with
  | nil => intro i _ t ht; cases ht
  | cons a l ih =>
    intro i h t ht
    obtain ⟨h1, h2, e, _, _, _, h3⟩ := h
    rcases List.mem_cons.1 ht with rfl | h4
    · exact oneP_rgt h1 h2
    · exact ih e h3 t h4
theorem lex_rgt {s : ByteArray} {l : List Tk} (h : lexR (oneP s) s = .inl l) : ∀ t ∈ l, Rgt t := chn_rgt s l 0 (lex_chn h).2
/-- Where it goes wrong. -/
theorem litGo_pos (s : ByteArray) (q : Int) (b : Nat) (hb : b ≤ s.size) : ∀ (f : Nat) (out : List Int) (i : Nat) (p : Nat × Int), litGo s q b f out i = .inr p → p.1 ≤ s.size := by
  intro f
  induction f with
  | zero => intro out i p h; rw [litGo] at h; cases h; exact hb
  | succ f ih =>
    intro out i p h
    rw [litGo] at h
    split at h
    · cases h; exact hb
    next hc =>
    have hi : i < s.size := chr_lt (by omega)
    split at h
    · split at h
      · cases h; exact hb
      · cases h
    split at h
    · cases h; exact Nat.le_of_lt hi
    split at h
    · exact ih _ _ _ h
    · split at h
      · cases h; exact Nat.le_of_lt hi
      · exact ih _ _ _ h
theorem nmR_pos {s : ByteArray} {b d : Nat} {k : Int} {p : Nat × Int} (hb : b ≤ s.size) (h : nmR s b d k = .inr p) : p.1 ≤ s.size := by
  unfold nmR at h
  cases hn : numR s d (gtK k) with
  | inr e => rw [hn] at h; cases h; exact hb
  | inl n => rw [hn] at h; cases h
theorem sigP_pos {s : ByteArray} {b : Nat} {p : Nat × Int} (hb : b ≤ s.size) (h : sigP s b = .inr p) : p.1 ≤ s.size := by
  have hl := sgAt_len s b hb
  unfold sigP at h
  split at h
  · cases h; exact hb
  split at h
  · exact nmR_pos hb h
  split at h
  · unfold grpP at h
    split at h
    · split at h
      · cases h; exact hl
      · split at h <;> cases h
    · cases h
  · cases h
theorem ptsP_pos {s : ByteArray} {b : Nat} {p : Nat × Int} (hb : b ≤ s.size) (h : ptsP s b = .inr p) : p.1 ≤ s.size := by
  unfold ptsP at h
  split at h
  · cases h; exact hb
  split at h
  · split at h
    · cases h; exact hb
    split at h
    · cases h
    · cases h; exact hb
  · split at h
    · cases h
    · cases h; exact hb
theorem oneP_pos {s : ByteArray} {b : Nat} {p : Nat × Int} (hb : b ≤ s.size) (h : oneP s b = .inr p) : p.1 ≤ s.size := by
  unfold oneP at h
  split at h
  · unfold nameR at h
    split at h
    · cases h; exact hb
    · cases h
  split at h
  · exact nmR_pos hb h
  split at h
  · exact litGo_pos _ _ _ hb _ _ _ _ h
  split at h
  · cases hr : rdRead s b with
    | inl q => rw [hr] at h; cases h
    | inr q =>
      rw [hr, clT] at h
      split at h
      · cases h; exact hb
      · cases h; exact rdRead_at hr
  split at h
  · unfold pctP at h
    split at h
    · exact ptsP_pos hb h
    split at h
    · exact sigP_pos hb h
    split at h
    · cases h
    · cases h; exact hb
  · exact sigP_pos hb h
theorem lexGo_pos (s : ByteArray) : ∀ (f : Nat) (out : List Tk) (i : Nat) (p : Nat × Int), lexGo (oneP s) s f out i = .inr p → p.1 ≤ s.size ∧ p.2 ≠ 0 := by
  intro f
  induction f with
  | zero => intro out i p h; rw [lexGo] at h; cases h
  | succ f ih =>
    intro out i p h
    rw [lexGo] at h
    split at h
    · next hi =>
      cases ho : oneP s i with
      | inr q => rw [ho] at h; cases h; exact ⟨oneP_pos (Nat.le_of_lt hi) ho, oneP_no s i _ ho⟩
      | inl t => rw [ho] at h; exact ih _ _ _ h
    · cases h
theorem lex_bad {s : ByteArray} {p : Nat × Int} (h : lexR (oneP s) s = .inr p) : p.1 ≤ s.size ∧ p.2 ≠ 0 := by
  unfold lexR at h
  split at h
  · cases h; exact ⟨Nat.zero_le _, by decide⟩
  · exact lexGo_pos s _ _ _ _ h
end Go.Proofs.YthffklhojdldkaaGreatDoor

namespace Go.Proofs.YthffklhojdldkaaGreatDoor
open Go.RowKit
set_option maxRecDepth 100000 in
set_option maxHeartbeats 8000000 in
theorem alikeO_any (A1 A2 : Option Addr) (c1 c2 : Nat) (L M : List Tk) (hlk : L.map lkT = M.map lkT) (hl : L.length ≤ 20000000) (w : World) (h1 : RdO w A1 L) (h2 : RdO w A2 M) :
    Calls Tryz.prog 13 #[.slice A1 L.length c1, .slice A2 M.length c2] w fun e w' => e = .returned (.bool true) ∧ Below w.heap.size w w' := by
  have hlen : M.length = L.length := by have := congrArg List.length hlk; simpa using this.symm
  have H1 := (show Hid _ from h1)
  have H2 := (show Hid _ from h2)
  have HG := (show Hid (∀ k, k < L.length → ∃ t u, L[k]? = some t ∧ M[k]? = some u ∧ lkT u = lkT t ∧ L ≠ [] ∧ M ≠ []) from fun k hk => by
    obtain ⟨u, hu, he⟩ := lk_get hlk (List.getElem?_eq_getElem hk)
    exact ⟨_, u, List.getElem?_eq_getElem hk, hu, he, by rintro rfl; simp at hk, by rintro rfl; simp at hu⟩)
  clear h1 h2 hlk
  rw [hlen]
  clear hlen
  have t1 : ((L.length : Int) != (L.length : Int)) = false := by simp
  go_enter Tryz.func13, Tryz.ntmps13
  go_wp2_with fail
  go_loopw [5] (fun t wr => ∃ k : Nat, k ≤ L.length ∧ t = .int .i64 k ∧ Hid (Below w.heap.size w wr)) (fun t _ => L.length - (intOf t).toNat)
  case atStart => exact ⟨0, by omega, by go_num, Below.refl _ _⟩
  case round =>
    obtain ⟨k, hk, rfl, HW⟩ := hrel
    by_cases hlt : k < L.length
    · obtain ⟨t, u, hr, hu, he, hne, hne2⟩ := HG.out k hlt
      obtain ⟨g1, o1, rfl, l1, n1⟩ := H1.out.rd hne
      obtain ⟨g2, o2, rfl, l2, n2⟩ := H2.out.rd hne2
      have key1 : ∀ j, wr.cell? ⟨g1, j, none⟩ = w.cell? ⟨g1, j, none⟩ := fun j => HW.out.cell (p := ⟨g1, j, none⟩) l1
      have key2 : ∀ j, wr.cell? ⟨g2, j, none⟩ = w.cell? ⟨g2, j, none⟩ := fun j => HW.out.cell (p := ⟨g2, j, none⟩) l2
      obtain ⟨a0, a1, a2, a3, a4, a5, a6, a7, a8⟩ := n1 k _ hr
      obtain ⟨d0, d1, d2, d3, d4, d5, d6, d7, d8⟩ := n2 k _ hu
      rw [← key1] at a0 a1 a2 a3 a4 a5 a6 a7 a8
      rw [← key2] at d0 d1 d2 d3 d4 d5 d6 d7 d8
      have hg1 : g1 < wr.heap.size := Nat.lt_of_lt_of_le l1 HW.out.size
      have hg2 : g2 < wr.heap.size := Nat.lt_of_lt_of_le l2 HW.out.size
      have z0 : (0 : Int) ≤ (k : Int) := by omega
      have z1 : (k : Int) < (L.length : Int) := by omega
      obtain ⟨kd, nn, fr, en, tx, s0, s1, s2, s3⟩ := t
      obtain ⟨kd', nn', fr', en', tx', s0', s1', s2', s3'⟩ := u
      simp only [lkT, Tk.mk.injEq, true_and] at he
      obtain ⟨rfl, rfl, rfl, rfl, rfl, rfl, rfl⟩ := he
      dsimp only at a0 a1 a2 a3 a4 a5 a6 a7 a8 d0 d1 d2 d3 d4 d5 d6 d7 d8
      have hq : ∀ W, (binOp .neq 45 (.agg #[.int .i64 kd', .int .i64 nn', .int .i64 0, .int .i64 0, .string tx', .int .u64 s0', .int .u64 s1', .int .u64 s2', .int .u64 s3']) (.agg #[.int .i64 kd', .int .i64 nn', .int .i64 0, .int .i64 0, .string tx', .int .u64 s0', .int .u64 s1', .int .u64 s2', .int .u64 s3'])).run Tryz.prog W = .ok (.bool false) W := fun W => tok_neq ⟨kd', nn', 0, 0, tx', s0', s1', s2', s3'⟩ W
      clear hr hu HG H1 H2 n1 n2 hne hne2 key1 key2
      generalize L.length = n at *
      go_wp2_with fail
      go_region
      all_goals
        clear a0 a1 a2 a3 a4 a5 a6 a7 a8 d0 d1 d2 d3 d4 d5 d6 d7 d8
        go_wp2_with fail
        go_roundw
        case rel => exact ⟨k + 1, by omega, by go_num, ((HW.out.alloc HW.out.size _).alloc (Nat.le_trans HW.out.size (by rw [World.size_alloc]; omega)) _).drew⟩
        case measure => simp [intOf]; omega
    · obtain rfl : k = L.length := by omega
      clear HG H1 H2
      go_wp2_with fail
      go_ret
      exact ⟨rfl, HW.out⟩
theorem txR_two (L : List Tk) : ((txR L).2 = 0 ∧ txR L = (txO (jT L L.length), 0) ∧ (ckR L).2 = 0 ∧ (jT L L.length).length ≤ 65536) ∨ (¬ (txR L).2 = 0 ∧ (txR L).1 = ⟨#[]⟩) := by
  by_cases hc : (ckR L).2 = 0
  · by_cases hl : 65536 < (jT L L.length).length
    · rw [txR_long hc (Nat.le_refl _) hl]
      exact .inr ⟨by decide, rfl⟩
    · have h := txR_ok hc hl
      exact .inl ⟨by rw [h], h, hc, by omega⟩
  · rw [txR_bad hc]
    exact .inr ⟨hc, rfl⟩
theorem txR_read {L : List Tk} (hr : ∀ t ∈ L, Rgt t) : (txR L).2 = 0 ∨ (txR L).2 = 2 := by
  have hg := ckGo_ok L 0 (fun t ht => (hr t ht).r)
  unfold txR ckR
  by_cases h1 : 4096 < L.length
  · rw [if_pos h1]
    exact .inr rfl
  · rw [if_neg h1, hg]
    by_cases h2 : 65536 < (jT L L.length).length
    · rw [if_pos rfl, if_pos h2]; exact .inr rfl
    · rw [if_pos rfl, if_neg h2]; exact .inl rfl
theorem ckR_read {L : List Tk} (hr : ∀ t ∈ L, Rgt t) (h : (ckR L).2 = 0) : ckR L = (0, 0) := by
  have hg := ckGo_ok L 0 (fun t ht => (hr t ht).r)
  unfold ckR at h ⊢
  by_cases h1 : 4096 < L.length
  · rw [if_pos h1] at h; cases h
  · rw [if_neg h1, hg]
theorem chn_len (s : ByteArray) : ∀ (l : List Tk) (i : Nat), i ≤ s.size → Chn s i l → i + l.length ≤ s.size := by
  intro l
  induction l with
  | nil => intro i hi _; simpa using hi
  | cons a l ih =>
    intro i hi h
    obtain ⟨h1, _, e, _, h3, h4, h5⟩ := h
    have h6 := ih e h4 h5
    have h7 := gapN_ge s i hi
    rw [List.length_cons]
    omega
theorem lex_len {s : ByteArray} {l : List Tk} (h : lexR (oneP s) s = .inl l) : l.length ≤ 65536 := by
  obtain ⟨h1, h2⟩ := lex_chn h
  have := chn_len s l 0 (by omega) h2
  omega
end Go.Proofs.YthffklhojdldkaaGreatDoor

namespace Go.Proofs.YthffklhojdldkaaGreatDoor
open Go.RowKit
/-- What Lex answers. -/
def LxP (w w' : World) (r : Sum (List Tk) (Nat × Int)) (e : Ending) : Prop := match r with
  | .inr q => e = .returned (.tuple #[.slice none 0 0, .agg #[.int .i64 q.1, .int .i64 q.2]])
  | .inl l => ∃ v, e = .returned (.tuple #[v, .agg #[.int .i64 0, .int .i64 0]]) ∧ w'.ownsRow w.heap.size 45 9 v l.length (tkc l)
/-- Between two tokens. -/
structure AtY (w W : World) (s : ByteArray) (v : Value) (out : List Tk) (i f : Nat) : Prop where
  b : Below w.heap.size w W
  x : FX W w.heap.size 0 0
  g : SG W
  o : W.ownsRow w.heap.size 45 9 v out.length (tkc out)
  hi : i ≤ s.size
  hf : s.size < f + gapN s i
  he : lexGo (oneP s) s f out (gapN s i) = lexR (oneP s) s
  hl : out.length ≤ i
theorem own_stF {W : World} {B n b : Nat} {v : Value} {xs : List Value} {p q : Int} (h : W.ownsRow B 45 9 v n xs) (hx : FX W b p q) (p' q' : Int) : (stF W b p' q').ownsRow B 45 9 v n xs := by
  refine ⟨h.1, ?_⟩
  rcases h.2 with hn | ⟨g, cap, cur, rfl, hB, hgg, rest⟩
  · exact .inl hn
  · refine .inr ⟨g, cap, cur, rfl, hB, ?_, rest⟩
    have hne : g ≠ b := by
      rintro rfl
      rw [hx.heap] at hgg
      injection hgg with h1
      injection h1 with h2 h3
      cases h3
    rw [stF_other p' q' hne]
    exact hgg
theorem own_ne {W : World} {B n b : Nat} {v : Value} {xs : List Value} {p q : Int} (h : W.ownsRow B 45 9 v n xs) (hx : FX W b p q) : v.ownBlock ≠ some b := by
  rcases h.2 with ⟨rfl, _⟩ | ⟨g, cap, cur, rfl, hB, hgg, rest⟩
  · intro q; cases q
  · intro q
    cases q
    rw [hx.heap] at hgg
    injection hgg with h1
    injection h1 with h2 h3
    cases h3
theorem FX.grown {W W' : World} {b : Nat} {p e : Int} {row : Option Nat} (h : FX W b p e) (hg : W.grownBy W' row) (hne : row ≠ some b) : FX W' b p e := ⟨(hg.block b h.lt (fun e => hne e.symm)).trans h.heap⟩
theorem stF_below {B : Nat} {w W : World} {b : Nat} (h : Below B w W) (hb : B ≤ b) (p q : Int) : Below B w (stF W b p q) := (h.setCell (p := ⟨b, 0, none⟩) hb _).setCell (p := ⟨b, 1, none⟩) hb _
theorem ret_lx {fn : Func} {R : Ending → World → Prop} {a : Act} {W : World} {b : Nat} {p e : Int} {v : Value} (hF : fn.results = #[.tmp 2, .cell 3 37]) (hd : a.defers = []) (h2 : a.tmps.getD 2 undef = v) (h3 : a.tmps.getD 3 undef = .pointer (some ⟨b, 0, none⟩)) (hT : FX W b p e) (hR : R (.returned (.tuple #[v, .agg #[.int .i64 p, .int .i64 e]])) W) : bodyPost Tryz.prog fn R .ret a W := by
  have c0 := hT.c0
  have c1 := hT.c1
  refine bodyPost_ret (v := .tuple #[v, .agg #[.int .i64 p, .int .i64 e]]) ?_ hd hR
  simp only [Array.getD_eq_getD_getElem?] at h2 h3
  simp [results, hF, go_sem, h2, h3, c0, c1]
set_option maxRecDepth 100000 in
set_option maxHeartbeats 8000000 in
theorem lexP_of (s : ByteArray) (hs : s.size ≤ 65536)
    (H2 : ∀ b t, b < s.size → oneP s b = .inl t → ∃ e : Nat, t.en = e ∧ b < e ∧ e ≤ s.size) (H3 : ∀ b q, oneP s b = .inr q → q.2 ≠ 0) (w : World) (hg : SG w) :
    Calls Tryz.prog 12 #[.string s] w fun e w' => LxP w w' (lexR (oneP s) s) e ∧ Below w.heap.size w w' := by
  have t1 : ¬ (65536 : Int) < (s.size : Int) := by omega
  obtain ⟨i0, hinf, hz0, hz1, hz2⟩ := info_parts Tryz.info36
  have HB : Hid (∀ k w, k ≤ s.size → Calls Tryz.prog 23 #[.string s, .int .i64 ((k : Nat) : Int)] w fun e w' => e = .returned (.int .i64 (spN blB s k)) ∧ w' = w) := fun k w hk => blanks_any s k (by omega) hk w
  have HLn : Hid (∀ k w, k ≤ s.size → Calls Tryz.prog 25 #[.string s, .int .i64 ((k : Nat) : Int)] w fun e w' => e = .returned (.int .i64 (spN lnB s k)) ∧ w' = w) := fun k w hk => lineEnd_any s k (by omega) hk w
  have HS : Hid (∀ k w, k ≤ s.size → Calls Tryz.prog 24 #[.string s, .int .i64 ((k : Nat) : Int), .string ⟨#[45, 45]⟩] w fun e w' => e = .returned (.bool (pfx s k [45, 45])) ∧ w' = w) := fun k w hk => stands_any s k ⟨#[45, 45]⟩ hk w
  have HO : Hid (∀ b w, b < s.size → SG w → Calls Tryz.prog 26 #[.string s, .int .i64 ((b : Nat) : Int)] w fun e w' => e = .returned (tokP (oneP s b)) ∧ Below w.heap.size w w') := fun b w hb g => readToken_any s b hs hb w g
  have HE := (show Hid ((∀ b t, b < s.size → oneP s b = .inl t → ∃ e : Nat, t.en = e ∧ b < e ∧ e ≤ s.size) ∧ ∀ b q, oneP s b = .inr q → q.2 ≠ 0) from ⟨H2, H3⟩)
  have HG0 := (show Hid (SG w) from hg)
  have H0 := (show Hid (AtY w (w.alloc (fxO 0 0)) s (.slice none 0 0) [] 0 (s.size + 1)) from
    ⟨below_box _ _, ⟨heap_alloc_new w _⟩, hg.later (below_box _ _), World.ownsRow_nil _ _ _ _, by omega, by have := (gapN_bd (s := s) (i := 0) (by omega)).1; omega, by unfold lexR; rw [if_neg (by omega)], Nat.le_refl _⟩)
  clear H2 H3 hg
  go_enter Tryz.func12, Tryz.ntmps12
  go_wp2_with fail
  refine wp_scope_again 2 0 (fun a' W => ∃ (out : List Tk) (i f : Nat) (v u6 u7 u8 u9 u10 u11 u12 u13 u14 u15 u16 u17 u18 u19 u20 u21 u22 u23 u24 u25 u26 u27 u28 u29 u30 u31 u32 u33 u34 u35 u36 u37 u38 u39 u40 u41 u42 u43 u44 : Value), a' = { tmps := #[.string s, undef, .slice none 0 0, .pointer (some ⟨w.heap.size, 0, none⟩), v, .int .i64 i, u6, u7, u8, u9, u10, u11, u12, u13, u14, u15, u16, u17, u18, u19, u20, u21, u22, u23, u24, u25, u26, u27, u28, u29, u30, u31, u32, u33, u34, u35, u36, u37, u38, u39, u40, u41, u42, u43, u44], defers := [] } ∧ Hid (AtY w W s v out i f)) (fun a' _ => s.size - (intOf (a'.tmps.getD 5 undef)).toNat) rfl ?_ ?_
  case refine_2 =>
    rintro a' W ⟨out, i, f, v, u6, u7, u8, u9, u10, u11, u12, u13, u14, u15, u16, u17, u18, u19, u20, u21, u22, u23, u24, u25, u26, u27, u28, u29, u30, u31, u32, u33, u34, u35, u36, u37, u38, u39, u40, u41, u42, u43, u44, rfl, HW⟩
    clear H0
    have hi := HW.out.hi
    have hf := HW.out.hf
    have hol := HW.out.hl
    have hge := spN_ge blB s (by decide) i
    have hle := spN_le blB s (by decide) i hi
    have HBi := (show Hid _ from fun w => HB.out i w hi)
    have HSi := (show Hid _ from fun w => HS.out (spN blB s i) w hle)
    have HLi := (show Hid _ from fun w => HLn.out (spN blB s i) w hle)
    have HGe := (show Hid (spN blB s i = s.size → gapN s i = s.size) from fun h => gapN_end h)
    have HGn := (show Hid (chr s (spN blB s i) = 45 → chr s (spN blB s i + 1) = 45 → gapN s i = gapN s (spN lnB s (spN blB s i)) ∧ spN blB s i < spN lnB s (spN blB s i)) from fun a b => gapN_note a b)
    have HGh := (show Hid (spN blB s i < s.size → ¬ (chr s (spN blB s i) = 45 ∧ chr s (spN blB s i + 1) = 45) → gapN s i = spN blB s i) from fun a b => gapN_here a b)
    have hle2 := spN_le lnB s (by decide) (spN blB s i) hle
    generalize hp : spN blB s i = p at *
    clear HB HS HLn hp
    by_cases hend : p = s.size
    · have HV : Hid (lexR (oneP s) s = .inl out) := by
        show lexR (oneP s) s = _
        rw [← HW.out.he, HGe.out hend]
        obtain ⟨f, rfl⟩ : ∃ g, f = g + 1 := ⟨f - 1, by have := HGe.out hend; omega⟩
        rw [lexGo, if_neg (by omega)]
      have v1 : ((p : Int) == (s.size : Int)) = true := by rw [hend]; exact beq_self_eq_true _
      have f0 := HW.out.x.f0
      have f1' := HW.out.x.f1
      have c0 := HW.out.x.c0
      have c1 := HW.out.x.c1
      clear HSi HLi HGe HGn HGh HO HE hend
      go_wp2_with fail
      refine (HBi.out _).mono ?_
      rintro e W ⟨rfl, rfl⟩
      clear HBi
      go_wp2_with fail
      refine ret_lx rfl rfl rfl rfl (stF_fx HW.out.x 0 0) ⟨?_, stF_below HW.out.b (Nat.le_refl _) 0 0⟩
      rw [HV.out]
      exact ⟨v, rfl, own_stF HW.out.o HW.out.x 0 0⟩
    have v1 : ((p : Int) == (s.size : Int)) = false := by rw [beq_eq_false_iff_ne]; omega
    have hplt : p < s.size := by omega
    by_cases hn : chr s p = 45 ∧ chr s (p + 1) = 45
    · obtain ⟨hg1, hg2⟩ := HGn.out hn.1 hn.2
      have hpf : pfx s p [45, 45] = true := by
        show (chr s p == 45 && (chr s (p + 1) == 45 && true)) = true
        rw [hn.1, hn.2]; rfl
      rw [hpf] at HSi
      generalize spN lnB s p = q at *
      have HW2 := (show Hid (AtY w W s v out q f) from ⟨HW.out.b, HW.out.x, HW.out.g, HW.out.o, hle2, by have := HW.out.hf; rw [hg1] at this; exact this, by rw [← hg1]; exact HW.out.he, by have := HW.out.hl; omega⟩)
      clear HGe HGn HGh HO HE hend hn hg1 hpf HW
      go_wp2_with fail
      refine (HBi.out _).mono ?_
      rintro e W ⟨rfl, rfl⟩
      clear HBi
      go_wp2_with fail
      refine (HSi.out _).mono ?_
      rintro e W ⟨rfl, rfl⟩
      clear HSi
      go_wp2_with fail
      go_step3
      simp (config := { zetaDelta := true }) only [then_goto, inBlock_goto]
      refine Kj_on rfl ?_
      go_wp2_with fail
      refine (HLi.out _).mono ?_
      rintro e W ⟨rfl, rfl⟩
      clear HLi
      go_wp2_with fail
      go_step3
      simp (config := { zetaDelta := true }) only [then_goto]
      refine Kj_back ⟨⟨out, q, f, v, _, _, _, _, _, _, _, _, _, _, _, _, _, _, _, _, _, _, _, _, _, _, _, _, _, _, _, _, _, _, _, _, _, _, _, _, _, _, _, rfl, HW2⟩, ?_⟩
      simp [intOf]
      omega
    · have hg1 := HGh.out hplt hn
      have hpf : pfx s p [45, 45] = false := by
        show (chr s p == 45 && (chr s (p + 1) == 45 && true)) = false
        by_cases h1 : chr s p = 45
        · have h2 : ¬ chr s (p + 1) = 45 := fun q => hn ⟨h1, q⟩
          rw [beq_eq_false_iff_ne.2 h2]; simp
        · rw [beq_eq_false_iff_ne.2 h1]; rfl
      rw [hpf] at HSi
      have HOp := (show Hid (∀ w, SG w → Calls Tryz.prog 26 #[.string s, .int .i64 ((p : Nat) : Int)] w fun e w' => e = .returned (tokP (oneP s p)) ∧ Below w.heap.size w w') from fun w g => HO.out p w hplt g)
      obtain ⟨f, rfl⟩ : ∃ g, f = g + 1 := ⟨f - 1, by omega⟩
      have HU : Hid (lexR (oneP s) s = match oneP s p with
        | .inr q => .inr q
        | .inl t => lexGo (oneP s) s f (out ++ [t]) (gapN s t.en.toNat)) := by show lexR (oneP s) s = _; rw [← HW.out.he, lexGo, hg1, if_pos hplt]; cases oneP s p <;> rfl
      cases ho : oneP s p with
      | inr q =>
        have hne := HE.out.2 p q ho
        have HV : Hid (lexR (oneP s) s = .inr q) := by show lexR (oneP s) s = _; rw [HU.out, ho]
        rw [ho] at HOp
        have t3 : (q.2 != 0) = true := by rw [bne, beq_eq_false_iff_ne.2 hne]; rfl
        clear HGe HGn HGh HO HE hend hn hg1 hpf HLi HU ho hne
        go_wp2_with fail
        refine (HBi.out _).mono ?_
        rintro e W ⟨rfl, rfl⟩
        clear HBi
        go_wp2_with fail
        refine (HSi.out _).mono ?_
        rintro e W ⟨rfl, rfl⟩
        clear HSi
        go_wp2_with fail
        go_step3
        simp (config := { zetaDelta := true }) only [then_goto, inBlock_goto]
        refine Kj_on rfl ?_
        go_wp2_with fail
        refine (HOp.out _ HW.out.g).mono ?_
        rintro e w3 ⟨rfl, b3⟩
        have HB5 := (show Hid (Below w.heap.size w ((w3.alloc (tkO tk0)).alloc (fxO q.1 q.2)) ∧ FX ((w3.alloc (tkO tk0)).alloc (fxO q.1 q.2)) w.heap.size 0 0 ∧ FX ((w3.alloc (tkO tk0)).alloc (fxO q.1 q.2)) (w3.heap.size + 1) q.1 q.2) from
          ⟨(((HW.out.b.trans (b3.mono HW.out.b.size)).alloc (Nat.le_trans HW.out.b.size b3.size) _).alloc (by rw [World.size_alloc]; have := HW.out.b.size; have := b3.size; omega) _), ((HW.out.x.below b3).below (below_box _ _)).below (below_box _ _), ⟨by
            have h := heap_alloc_new (w3.alloc (tkO tk0)) (fxO q.1 q.2)
            rw [World.size_alloc] at h
            exact h⟩⟩)
        have hlt3 := (HW.out.x.below b3).lt
        have ne1 : ¬ w3.heap.size + 1 = w.heap.size := by omega
        have ne2 : ¬ w.heap.size = w3.heap.size + 1 := by omega
        clear b3 HW HOp
        unfold tokP pairV
        go_wp2_with fail
        generalize (w3.alloc (tkO tk0)).alloc (fxO q.1 q.2) = w5 at *
        have f0 := HB5.out.2.1.f0
        have f1' := HB5.out.2.1.f1
        have c0 := HB5.out.2.1.c0
        have c1 := HB5.out.2.1.c1
        have k0 := HB5.out.2.2.c0
        have k1 := HB5.out.2.2.c1
        go_region
        all_goals
          go_wp2_with fail
          simp only [Kj_ret]
          refine ret_lx rfl rfl rfl rfl ((stF_fx HB5.out.2.1 q.1 q.2).below (Below.refl _ _).drew) ⟨?_, (stF_below HB5.out.1 (Nat.le_refl _) q.1 q.2).drew⟩
          rw [HV.out]
          exact rfl
      | inl t =>
        obtain ⟨en, he1, he2, he3⟩ := HE.out.1 p t hplt ho
        have HV : Hid (lexGo (oneP s) s f (out ++ [t]) (gapN s en) = lexR (oneP s) s) := by show _ = lexR (oneP s) s; rw [HU.out, ho]; show _ = lexGo (oneP s) s f (out ++ [t]) (gapN s t.en.toNat); rw [he1]; rfl
        have hgb := gapN_bd he3
        have HEn := (show Hid (t.en = (en : Int)) from he1)
        clear he1
        rw [ho] at HOp
        clear HGe HGn HGh HO HE hend hn hpf HLi HU ho
        go_wp2_with fail
        refine (HBi.out _).mono ?_
        rintro e W ⟨rfl, rfl⟩
        clear HBi
        go_wp2_with fail
        refine (HSi.out _).mono ?_
        rintro e W ⟨rfl, rfl⟩
        clear HSi
        go_wp2_with fail
        go_step3
        simp (config := { zetaDelta := true }) only [then_goto, inBlock_goto]
        refine Kj_on rfl ?_
        go_wp2_with fail
        refine (HOp.out _ HW.out.g).mono ?_
        rintro e w3 ⟨rfl, b3⟩
        have hO : w3.ownsRow w.heap.size 45 9 v out.length (tkc out) := ownB HW.out.o b3
        have HB3 := (show Hid (Below w.heap.size w w3 ∧ FX w3 w.heap.size 0 0 ∧ SG w3) from ⟨HW.out.b.trans (b3.mono HW.out.b.size), HW.out.x.below b3, HW.out.g.later b3⟩)
        have hs3 := HB3.out.1.size
        have HX := (show Hid (TX ((w3.alloc (tkO t)).alloc (fxO 0 0)) w3.heap.size t) from (TX.new w3 t).below (below_box _ _))
        clear b3 HOp HW
        unfold tokP pairV
        obtain ⟨c0, c1, c2, c3, c4, c5, c6, c7, c8⟩ := HX.out.cells
        go_wp2_with (at_builtin; refine wpList_append_lies _ rfl _ _ 22 rfl w.heap.size 45 i0 (tkG tk0) 9 80 Tryz.underlying22 hinf hz0 hz1 hz2 rfl (by decide) _ _ _ rfl (((hO.alloc _).alloc _).alloc _) ⟨w3.heap.size + 1 + 1, 0, none⟩ 1 1 (tkV t) rfl rfl ?c1 (tk_one _) (by decide) ?c3 ?c4 ?c5 (w3.heap.size + 1 + 1 + 1) (by simp) ?_)
        case c1 =>
          have hh := heap_alloc_new ((w3.alloc (tkO t)).alloc (fxO 0 0)) (.cells (tkC t) 45)
          rw [World.size_alloc, World.size_alloc] at hh
          exact World.news_of_block (cs := tkC t) (t := 45) (fr := (0, 0)) hh
        case c3 => unfold maxLen; omega
        case c4 => omega
        case c5 => first | omega | (simp; omega)
        intro g3 cap w4 hown hgrow hat _
        have hgo : ∀ k, v.ownBlock = some k → w.heap.size ≤ k ∧ k < w3.heap.size := fun k e => hO.lt k e
        have hne4 := own_ne hO HB3.out.2.1
        have HX4 := (show Hid (TX w4 w3.heap.size t) from (HX.out.below (below_box _ _)).grown hgrow (fun e => by have := (hgo _ e).2; omega))
        have hb4 : Below w.heap.size w w4 := (((HB3.out.1.alloc hs3 _).alloc (by rw [World.size_alloc]; omega) _).alloc (by rw [World.size_alloc, World.size_alloc]; omega) _).grown hgrow (by rw [World.size_alloc, World.size_alloc, World.size_alloc]; omega) (fun k e => (hgo k e).1)
        have HW4 := (show Hid (AtY w w4 s (.slice (some ⟨g3, 0, none⟩) (out.length + 1) cap) (out ++ [t]) en f) from by
          refine ⟨hb4, (((HB3.out.2.1.below (below_box _ _)).below (below_box _ _)).below (below_box _ _)).grown hgrow hne4, HG0.out.below hb4 HG0.out.lt, ?_, he3, by rw [hg1] at hf; omega, HV.out, by rw [List.length_append, List.length_singleton]; omega⟩
          rw [List.length_append, List.length_singleton, tkc_append, tkc_one]
          exact hown)
        have e3 := HX4.out.cells.c3
        rw [HEn.out] at e3
        clear hown hgrow hat hgo hO HB3 HX HV c0 c1 c2 c3 c4 c5 c6 c7 c8 hne4 hb4 HX4
        go_wp2_with fail
        go_step3
        simp (config := { zetaDelta := true }) only []
        refine Kj_back ⟨⟨out ++ [t], en, f, _, _, _, _, _, _, _, _, _, _, _, _, _, _, _, _, _, _, _, _, _, _, _, _, _, _, _, _, _, _, _, _, _, _, _, _, _, _, _, _, rfl, HW4⟩, ?_⟩
        simp [intOf]
        omega
  case refine_1 =>
    intro hpass
    have HPs := (show Hid _ from hpass)
    clear hpass
    go_wp2_with fail
    go_step3
    rename_i hK
    refine hK _ _ ?_
    refine HPs.out _ _ ?_
    exact ⟨[], 0, s.size + 1, .slice none 0 0, _, _, _, _, _, _, _, _, _, _, _, _, _, _, _, _, _, _, _, _, _, _, _, _, _, _, _, _, _, _, _, _, _, _, _, _, _, _, _, rfl, H0⟩
set_option maxRecDepth 100000 in
set_option maxHeartbeats 8000000 in
theorem lexP_long (s : ByteArray) (hs : 65536 < s.size) (w : World) : Calls Tryz.prog 12 #[.string s] w fun e w' => LxP w w' (lexR (oneP s) s) e ∧ Below w.heap.size w w' := by
  have t1 : (65536 : Int) < (s.size : Int) := by omega
  have HE : Hid (lexR (oneP s) s = .inr (0, 2)) := by show lexR (oneP s) s = _; unfold lexR; rw [if_pos hs]
  go_enter Tryz.func12, Tryz.ntmps12
  go_wp2_with fail
  refine wp_scope_forth 1 0 rfl ?_
  go_wp2_with fail
  simp only [Kj_ret]
  refine ret_lx (b := w.heap.size) (p := 0) (e := 2) rfl rfl rfl rfl ⟨heap_alloc_new w _⟩ ⟨?_, below_box _ _⟩
  rw [HE.out]
  exact rfl
end Go.Proofs.YthffklhojdldkaaGreatDoor

namespace Go.Proofs.YthffklhojdldkaaGreatDoor
open Go.RowKit
theorem lexP_any (s : ByteArray) (w : World) (hg : SG w) : Calls Tryz.prog 12 #[.string s] w fun e w' => LxP w w' (lexR (oneP s) s) e ∧ Below w.heap.size w w' := by
  by_cases hs : s.size ≤ 65536
  · exact lexP_of s hs (fun b t hb h => oneP_en s b t hb h) (fun b q h => oneP_no s b q h) w hg
  · exact lexP_long s (by omega) w
end Go.Proofs.YthffklhojdldkaaGreatDoor

namespace Go.Proofs.YthffklhojdldkaaGreatDoor
open Go.RowKit
def ex1 : ByteArray := ⟨#[97, 32, 60, 45, 32, 39, 120, 92, 110, 39, 32, 47, 32, 91, 97, 45, 122, 93, 43, 32, 45, 45, 32, 110, 111, 116, 101]⟩
def ex2 : ByteArray := ⟨#[97, 36]⟩
def wk1B : Sum (List Tk) (Nat × Int) → Bool
  | .inl [a, _, c, _, _, _] => a.kd == 1 && a.nn == 0 && a.fr == 0 && a.en == 1 && a.tx.data.toList == [97] && a.s0 == 0 && a.s1 == 0 && a.s2 == 0 && a.s3 == 0 && c.tx.data.toList == [120, 10] && c.en == 10
  | _ => false
def wk2B : Sum (List Tk) (Nat × Int) → Bool
  | .inr q => q.1 == 1 && q.2 == 50
  | _ => false
set_option maxRecDepth 1000000 in
theorem wk2 : wk2B (lexR (oneP ex2) ex2) = true := by kernel_rfl
set_option maxRecDepth 1000000 in
theorem wk1 : wk1B (lexR (oneP ex1) ex1) = true := by kernel_rfl
theorem text_eq {s : ByteArray} {l : List UInt8} (h : (s.data.toList == l) = true) : s = ⟨l.toArray⟩ := by
  have h := beq_iff_eq.1 h
  cases s with
  | mk d => simp at h; rw [← h]
theorem wk1_get : ∃ b c d e f, lexR (oneP ex1) ex1 = .inl [⟨1, 0, 0, 1, ⟨#[97]⟩, 0, 0, 0, 0⟩, b, c, d, e, f] ∧ c.tx = ⟨#[120, 10]⟩ ∧ c.en = 10 := by
  have h := wk1
  generalize lexR (oneP ex1) ex1 = r at *
  match r, h with
  | .inl [a, b, c, d, e, f], h =>
    simp only [wk1B, Bool.and_eq_true, beq_iff_eq] at h
    obtain ⟨⟨⟨⟨⟨⟨⟨⟨⟨⟨h0, h1⟩, h2⟩, h3⟩, h4⟩, h5⟩, h6⟩, h7⟩, h8⟩, h9⟩, h10⟩ := h
    refine ⟨b, c, d, e, f, ?_, text_eq (beq_iff_eq.2 h9), h10⟩
    have h4 := text_eq (beq_iff_eq.2 h4)
    obtain ⟨a0, a1, a2, a3, a4, a5, a6, a7, a8⟩ := a
    dsimp only at *
    subst h0 h1 h2 h3 h4 h5 h6 h7 h8
    rfl
theorem wk2_get : lexR (oneP ex2) ex2 = .inr (1, 50) := by
  have h := wk2
  generalize lexR (oneP ex2) ex2 = r at *
  match r, h with
  | .inr q, h =>
    simp only [wk2B, Bool.and_eq_true, beq_iff_eq] at h
    obtain ⟨a, b⟩ := q
    obtain ⟨h1, h2⟩ := h
    dsimp only at *
    subst h1 h2
    rfl
set_option maxRecDepth 100000 in
set_option maxHeartbeats 8000000 in
theorem works_any (w : World) (hg : SG w) : Calls Tryz.prog 11 #[] w fun e w' => e = .returned (.bool true) ∧ Below w.heap.size w w' := by
  obtain ⟨b, c, d, e, f, hl, htx, hen⟩ := wk1_get
  have HL1 : Hid (Calls Tryz.prog 12 #[.string ex1] w fun e' w' => (∃ v, e' = .returned (.tuple #[v, .agg #[.int .i64 0, .int .i64 0]]) ∧ w'.ownsRow w.heap.size 45 9 v 6 (tkc [⟨1, 0, 0, 1, ⟨#[97]⟩, 0, 0, 0, 0⟩, b, c, d, e, f])) ∧ Below w.heap.size w w') := by
    have h := lexP_any ex1 w hg
    rw [hl] at h
    exact h
  have HL2 : Hid (∀ w, SG w → Calls Tryz.prog 12 #[.string ex2] w fun e' w' => e' = .returned (.tuple #[.slice none 0 0, .agg #[.int .i64 1, .int .i64 50]]) ∧ Below w.heap.size w w') := fun w g => by
    have h := lexP_any ex2 w g
    rw [wk2_get] at h
    exact h
  have HG := (show Hid (SG w) from hg)
  have e1 := eq26 0 0 0 0
  have e2 := eq26 1 50 1 50
  have e3 := tok_eql ⟨1, 0, 0, 1, ⟨#[97]⟩, 0, 0, 0, 0⟩
  unfold ex1 at HL1
  unfold ex2 at HL2
  clear hg hl
  go_enter Tryz.func11, Tryz.ntmps11
  go_wp2_with fail
  refine HL1.out.mono ?_
  rintro e' w1 ⟨⟨v, rfl, ho⟩, b1⟩
  obtain ⟨A, cp, rfl, hr⟩ := own_rdt ho rfl
  have HR1 := (show Hid _ from hr.later (below_box w1 (fxO 0 0)))
  have HB1 := (show Hid (Below w.heap.size w (w1.alloc (fxO 0 0)) ∧ SG (w1.alloc (fxO 0 0))) from ⟨b1.alloc b1.size _, (HG.out.later b1).later (below_box _ _)⟩)
  have HF1 := (show Hid (FX (w1.alloc (fxO 0 0)) w1.heap.size 0 0) from ⟨heap_alloc_new w1 _⟩)
  clear ho b1 hr HL1
  go_wp2_with fail
  refine (HL2.out _ HB1.out.2).mono ?_
  rintro e' w2 ⟨rfl, b2⟩
  have HR2 := (show Hid _ from HR1.out.later b2)
  have HF2 := (show Hid (FX w2 w1.heap.size 0 0) from HF1.out.below b2)
  have HB2 := (show Hid (Below w.heap.size w w2) from HB1.out.1.trans (b2.mono HB1.out.1.size))
  have hb2 := HB2.out.size
  clear b2 HR1 HF1 HB1 HL2
  obtain ⟨g, rfl, lt, hc⟩ := HR2.out.rd (by simp)
  obtain ⟨a0, a1, a2, a3, a4, a5, a6, a7, a8⟩ := hc 0 _ rfl
  obtain ⟨d0, d1, d2, d3, d4, d5, d6, d7, d8⟩ := hc 2 _ rfl
  rw [htx] at d4
  rw [hen] at d3
  have k0 := HF2.out.c0
  have k1 := HF2.out.c1
  have lt2 := HF2.out.lt
  clear hc HR2 HF2 htx hen
  go_wp2_with fail
  go_ret
  exact ⟨rfl, HB2.out.alloc hb2 _⟩
end Go.Proofs.YthffklhojdldkaaGreatDoor
