/- DERIVED. Plain mathematics and walks, laid together (9). -/
import Derived.LoopN
import Derived.Lib.AppendStr
import Derived.Deep.RegionLaw
import Derived.Deep.AppendLies
import Derived.Test.YthffklhojdldkaaDoorGp08
namespace Go.Proofs.YthffklhojdldkaaDoor
open Go.RowKit
theorem litGo_fr (s : ByteArray) (q : Int) (b : Nat) : ∀ (f : Nat) (out : List Int) (i : Nat) (t : Tk), litGo s q b f out i = .inl t → t.fr = b := by
  intro f
  induction f with
  | zero => intro out i t h; rw [litGo] at h; cases h
  | succ f ih =>
    intro out i t h
    rw [litGo] at h
    split at h
    · cases h
    split at h
    · split at h
      · cases h
      · cases h; rfl
    split at h
    · cases h
    split at h
    · exact ih _ _ _ h
    · split at h
      · cases h
      · exact ih _ _ _ h
theorem nmR_fr {s : ByteArray} {b d : Nat} {k : Int} {t : Tk} (h : nmR s b d k = .inl t) : t.fr = b := by
  unfold nmR at h
  cases hn : numR s d (gtK k) with
  | inr e => rw [hn] at h; cases h
  | inl n => rw [hn] at h; cases h; rfl
theorem grpP_fr {s : ByteArray} {b d : Nat} {t : Tk} (h : grpP s b d = .inl t) : t.fr = b := by
  unfold grpP at h
  split at h
  · split at h
    · cases h
    · split at h <;> (cases h; rfl)
  · cases h; rfl
theorem sigP_fr {s : ByteArray} {b : Nat} {t : Tk} (h : sigP s b = .inl t) : t.fr = b := by
  unfold sigP at h
  split at h
  · cases h
  split at h
  · exact nmR_fr h
  split at h
  · exact grpP_fr h
  · cases h; rfl
theorem ptsP_fr {s : ByteArray} {b : Nat} {t : Tk} (h : ptsP s b = .inl t) : t.fr = b := by
  unfold ptsP at h
  split at h
  · cases h
  split at h
  · split at h
    · cases h
    split at h
    · cases h; rfl
    · cases h
  · split at h
    · cases h; rfl
    · cases h
theorem oneP_fr {s : ByteArray} {b : Nat} {t : Tk} (h : oneP s b = .inl t) : t.fr = b := by
  unfold oneP at h
  split at h
  · unfold nameR at h
    split at h
    · cases h
    · cases h; rfl
  split at h
  · exact nmR_fr h
  split at h
  · exact litGo_fr _ _ _ _ _ _ _ h
  split at h
  · cases hr : rdRead s b with
    | inr p =>
      rw [hr, clT] at h
      split at h <;> cases h
    | inl p => rw [hr] at h; cases h; rfl
  split at h
  · unfold pctP at h
    split at h
    · exact ptsP_fr h
    split at h
    · exact sigP_fr h
    split at h
    · cases h; rfl
    · cases h
  · exact sigP_fr h
/-- Tokens one behind the other, from a place on. -/
def Chn (s : ByteArray) (i : Nat) : List Tk → Prop
  | [] => gapN s i = s.size
  | t :: l => gapN s i < s.size ∧ oneP s (gapN s i) = .inl t ∧ ∃ e : Nat, t.en = e ∧ gapN s i < e ∧ e ≤ s.size ∧ Chn s e l
theorem chn_of (s : ByteArray) : ∀ (f : Nat) (out : List Tk) (i : Nat) (l : List Tk), i ≤ s.size → s.size < f + gapN s i → lexGo (oneP s) s f out (gapN s i) = .inl l → ∃ l2, l = out ++ l2 ∧ Chn s i l2 := by
  intro f
  induction f with
  | zero => intro out i l hi hf h; have := (gapN_bd hi).2; omega
  | succ f ih =>
    intro out i l hi hf h
    have hb := gapN_bd hi
    rw [lexGo] at h
    by_cases hlt : gapN s i < s.size
    · rw [if_pos hlt] at h
      cases ho : oneP s (gapN s i) with
      | inr q => rw [ho] at h; cases h
      | inl t =>
        rw [ho] at h
        dsimp only at h
        obtain ⟨e, e1, e2, e3⟩ := oneP_en s _ t hlt ho
        rw [e1, Int.toNat_natCast] at h
        have hge := gapN_ge s e e3
        obtain ⟨l2, h2, h3⟩ := ih (out ++ [t]) e l e3 (by omega) h
        refine ⟨t :: l2, by rw [h2, List.append_assoc]; rfl, hlt, ho, e, e1, e2, e3, h3⟩
    · rw [if_neg hlt] at h
      cases h
      exact ⟨[], by rw [List.append_nil], by show gapN s i = s.size; omega⟩
theorem chn_lex (s : ByteArray) : ∀ (l : List Tk) (f : Nat) (out : List Tk) (i : Nat), i ≤ s.size → s.size < f + gapN s i → Chn s i l → lexGo (oneP s) s f out (gapN s i) = .inl (out ++ l) := by
  intro l
  induction l with
  | nil =>
    intro f out i hi hf h
    have h : gapN s i = s.size := h
    cases f with
    | zero => omega
    | succ f => rw [lexGo, if_neg (by omega), List.append_nil]
  | cons t l ih =>
    intro f out i hi hf h
    obtain ⟨h1, h2, e, e1, e2, e3, h3⟩ := h
    cases f with
    | zero => omega
    | succ f =>
      have hge := gapN_ge s e e3
      rw [lexGo, if_pos h1, h2]
      dsimp only
      rw [e1, Int.toNat_natCast, ih f (out ++ [t]) e e3 (by omega) h3, List.append_assoc]
      rfl
theorem lex_chn {s : ByteArray} {l : List Tk} (h : lexR (oneP s) s = .inl l) : s.size ≤ 65536 ∧ Chn s 0 l := by
  unfold lexR at h
  split at h
  · cases h
  · next q =>
    obtain ⟨l2, h2, h3⟩ := chn_of s _ _ 0 l (by omega) (by have := (gapN_bd (s := s) (i := 0) (by omega)).1; omega) h
    rw [h2]
    exact ⟨by omega, h3⟩
theorem lex_of_chn {s : ByteArray} {l : List Tk} (hs : s.size ≤ 65536) (h : Chn s 0 l) : lexR (oneP s) s = .inl l := by
  unfold lexR
  rw [if_neg (by omega), chn_lex s l _ [] 0 (by omega) (by have := (gapN_bd (s := s) (i := 0) (by omega)).1; omega) h]
  rfl
/-- Where a token begins neither a blank nor a comment stands. -/
theorem gap_fix {s : ByteArray} {i : Nat} (hi : i ≤ s.size) (h : gapN s i < s.size) : ¬ (chr s (gapN s i) = 9 ∨ chr s (gapN s i) = 10 ∨ chr s (gapN s i) = 13 ∨ chr s (gapN s i) = 32) ∧ ¬ (chr s (gapN s i) = 45 ∧ chr s (gapN s i + 1) = 45) := by
  have key : ∀ (f i : Nat), s.size - i < f → i ≤ s.size → gapN s i < s.size → gapN s (gapN s i) = gapN s i := by
    intro f
    induction f with
    | zero => intro i hf; omega
    | succ f ih =>
      intro i hf hi h
      have hu := gapN_unf s i
      by_cases hlt : i < s.size
      · rw [if_pos hlt] at hu
        by_cases hn : chr s i = 45 ∧ chr s (i + 1) = 45
        · rw [if_pos hn] at hu
          have h1 := spN_next (P := lnB) (s := s) (i := i) (by decide) (by rw [hn.1]; rfl)
          have h2 := spN_ge lnB s (by decide) (i + 1)
          have h3 := spN_le lnB s (by decide) i (by omega)
          rw [hu] at h ⊢
          exact ih _ (by omega) h3 h
        · rw [if_neg hn] at hu
          by_cases hb : chr s i = 9 ∨ chr s i = 10 ∨ chr s i = 13 ∨ chr s i = 32
          · rw [if_pos hb] at hu
            rw [hu] at h ⊢
            exact ih _ (by omega) (by omega) h
          · rw [if_neg hb] at hu
            rw [hu, hu]
      · rw [if_neg hlt] at hu; omega
  have hfix := key _ i (Nat.lt_succ_self _) hi h
  have hu := gapN_unf s (gapN s i)
  rw [if_pos h, hfix] at hu
  refine ⟨fun q => ?_, fun q => ?_⟩
  · rw [if_neg (by omega), if_pos q] at hu
    have := gapN_ge s (gapN s i + 1) (by omega)
    omega
  · rw [if_pos q] at hu
    have h1 := spN_next (P := lnB) (s := s) (i := gapN s i) (by decide) (by rw [q.1]; rfl)
    have h2 := spN_ge lnB s (by decide) (gapN s i + 1)
    have h3 := spN_le lnB s (by decide) (gapN s i) (by omega)
    have := gapN_ge s (spN lnB s (gapN s i)) h3
    omega
theorem tok_minus {s : ByteArray} {b m : Nat} {t : Tk} (h45 : chr s b = 45) (h : oneP s b = .inl t) (he : t.en = (b + m : Nat)) : m = 2 := by
  unfold oneP at h
  rw [h45, if_neg (by decide), if_neg (by decide), if_neg (by decide), if_neg (by decide), if_neg (by decide)] at h
  unfold sigP at h
  rw [sgAt_C, h45] at h
  have e : sgC 45 (chr s (b + 1)) = if chr s (b + 1) = 62 then (27, [45, 62]) else (0, []) := by
    unfold sgC
    rw [if_neg (by decide), if_neg (by decide), if_neg (by decide), if_pos rfl]
  rw [e] at h
  by_cases q : chr s (b + 1) = 62
  · rw [if_pos q] at h
    simp at h
    cases h
    dsimp only at he
    omega
  · rw [if_neg q] at h
    simp at h
/-- A token's place in another text is no blank, and begins no comment. -/
theorem start_move {s s' : ByteArray} {b b' m : Nat} {t : Tk} (hb : b < s.size) (hnb : ¬ (chr s b = 9 ∨ chr s b = 10 ∨ chr s b = 13 ∨ chr s b = 32)) (hnn : ¬ (chr s b = 45 ∧ chr s (b + 1) = 45)) (h : oneP s b = .inl t) (he : t.en = (b + m : Nat)) (ha : Ag s b s' b' m) : gapN s' b' = b' ∧ b' < s'.size := by
  obtain ⟨e, x1, x2, x3⟩ := oneP_en s b t hb h
  have hin := ha.in (by omega) (by omega)
  have h0 := ha 0 (by omega)
  rw [Nat.add_zero, Nat.add_zero] at h0
  refine ⟨?_, by omega⟩
  rw [gapN_unf, if_pos (by omega), if_neg (fun q => ?_), if_neg (by rw [h0]; exact hnb)]
  have h45 : chr s b = 45 := by rw [← h0]; exact q.1
  have hm := tok_minus h45 h he
  exact hnn ⟨h45, by rw [← ha 1 (by omega)]; exact q.2⟩
end Go.Proofs.YthffklhojdldkaaDoor

namespace Go.Proofs.YthffklhojdldkaaDoor
open Go.RowKit
theorem eq26 (a b c d : Int) (w : World) : (Op.equalIn 10000 26 (.agg #[.int .i64 a, .int .i64 b]) (.agg #[.int .i64 c, .int .i64 d])).run Tryd.prog w = .ok (a == c && b == d) w := by
  have u3 := Tryd.underlying3
  have a3 := Tryd.isAgg3
  have z3 := Tryd.sizeOf3
  have u4 := Tryd.underlying24
  have a4 := Tryd.isAgg24
  have z4 := Tryd.sizeOf24
  have hS : Tryd.prog.underlying 26 = some (.struct (Tryd.prog.fieldsOf 26)) := by kernel_rfl
  have hp : Tryd.prog.stoodInHeld 26 = false := by kernel_rfl
  rw [show (10000 : Nat) = 9999 + 1 from rfl, run_equalIn_agg w 9999 26 _ _ hS hp]
  simp only [Program.fieldsOf, Tryd.underlying26]
  go_simp
  by_cases h1 : a = c <;> by_cases h2 : b = d <;> simp [h1, h2]
theorem eqSet (a b c d : Int) (w : World) : (Op.equalIn 9999 34 (.agg #[.int .u64 a, .int .u64 b, .int .u64 c, .int .u64 d]) (.agg #[.int .u64 a, .int .u64 b, .int .u64 c, .int .u64 d])).run Tryd.prog w = .ok true w := by
  have u3 := Tryd.underlying32
  have a3 := Tryd.isAgg32
  have z3 := Tryd.sizeOf32
  rw [show (9999 : Nat) = 9998 + 1 from rfl, Op.equalIn]
  simp only [Sem.run_bind, run_underlying Tryd.underlying34, Result.andThen_ok]
  simp only [Std.Legacy.Range.forIn_eq_forIn_range', Std.Legacy.Range.size, Nat.sub_zero, Nat.add_sub_cancel, Nat.div_one, List.range'_succ, List.range'_zero, List.forIn_cons, List.forIn_nil]
  go_simp
set_option maxRecDepth 100000 in
theorem tok_neq (t : Tk) (W : World) : (binOp .neq 36 (tkG t) (tkG t)).run Tryd.prog W = .ok (.bool false) W := by
  have hp : Tryd.prog.stoodInHeld 36 = false := by kernel_rfl
  simp [go_sem, Tryd.underlying36, Tryd.underlying3, Tryd.underlying9, Tryd.isAgg34, Tryd.isAgg3, Tryd.isAgg9, Tryd.sizeOf34, hp, eqSet]
set_option maxRecDepth 100000 in
theorem tok_eql (t : Tk) (W : World) : (binOp .eql 36 (tkG t) (tkG t)).run Tryd.prog W = .ok (.bool true) W := by
  have hp : Tryd.prog.stoodInHeld 36 = false := by kernel_rfl
  simp [go_sem, Tryd.underlying36, Tryd.underlying3, Tryd.underlying9, Tryd.isAgg34, Tryd.isAgg3, Tryd.isAgg9, Tryd.sizeOf34, hp, eqSet]
/-- A token's cells in a row. -/
structure TR (W : World) (g o : Nat) (t : Tk) : Prop where
  c0 : W.cell? ⟨g, o, none⟩ = some (.int .i64 t.kd)
  c1 : W.cell? ⟨g, o + 1, none⟩ = some (.int .i64 t.nn)
  c2 : W.cell? ⟨g, o + 2, none⟩ = some (.int .i64 t.fr)
  c3 : W.cell? ⟨g, o + 3, none⟩ = some (.int .i64 t.en)
  c4 : W.cell? ⟨g, o + 4, none⟩ = some (.string t.tx)
  c5 : W.cell? ⟨g, o + 5, none⟩ = some (.int .u64 t.s0)
  c6 : W.cell? ⟨g, o + 6, none⟩ = some (.int .u64 t.s1)
  c7 : W.cell? ⟨g, o + 7, none⟩ = some (.int .u64 t.s2)
  c8 : W.cell? ⟨g, o + 8, none⟩ = some (.int .u64 t.s3)
/-- A slice reads as a list of tokens. -/
structure RdT (W : World) (A : Option Addr) (L : List Tk) : Prop where
  rd : L ≠ [] → ∃ g, A = some ⟨g, 0, none⟩ ∧ g < W.heap.size ∧ ∀ (k : Nat) t, L[k]? = some t → TR W g (k * 9) t
theorem RdT.later {W W' : World} {A : Option Addr} {L : List Tk} (h : RdT W A L) (hb : Below W.heap.size W W') : RdT W' A L := ⟨fun hne => by
  obtain ⟨g, e, lt, hc⟩ := h.rd hne
  have key : ∀ j, W'.cell? ⟨g, j, none⟩ = W.cell? ⟨g, j, none⟩ := fun j => hb.cell (p := ⟨g, j, none⟩) lt
  refine ⟨g, e, Nat.lt_of_lt_of_le lt hb.size, fun k t hk => ?_⟩
  obtain ⟨c0, c1, c2, c3, c4, c5, c6, c7, c8⟩ := hc k t hk
  exact ⟨(key _).trans c0, (key _).trans c1, (key _).trans c2, (key _).trans c3, (key _).trans c4, (key _).trans c5, (key _).trans c6, (key _).trans c7, (key _).trans c8⟩⟩
theorem tkc_get (L : List Tk) : ∀ (k j : Nat) (t : Tk) (u : Value), L[k]? = some t → (tkV t)[j]? = some u → (tkc L)[k * 9 + j]? = some u := by
  induction L with
  | nil => intro k j t u h; simp at h
  | cons a L ih =>
    intro k j t u h hj
    have e : tkc (a :: L) = tkV a ++ tkc L := by unfold tkc; rw [List.flatMap_cons]
    have hl : (tkV a).length = 9 := rfl
    rw [e]
    cases k with
    | zero =>
      have h : a = t := by simpa using h
      subst h
      rw [Nat.zero_mul, Nat.zero_add, List.getElem?_append_left (by have := (List.getElem?_eq_some_iff.1 hj).1; omega)]
      exact hj
    | succ k =>
      rw [List.getElem?_append_right (by omega), hl, show (k + 1) * 9 + j - 9 = k * 9 + j from by omega]
      exact ih k j t u (by simpa using h) hj
theorem own_rdt {W : World} {B n : Nat} {v : Value} {L : List Tk} (h : W.ownsRow B 36 9 v n (tkc L)) (hn : n = L.length) : ∃ A c, v = .slice A L.length c ∧ RdT W A L := by
  subst hn
  have hc := h
  rcases h.2 with ⟨rfl, h0⟩ | ⟨g, cap, cur, rfl, _⟩
  · exact ⟨none, 0, by rw [h0], ⟨fun hl => absurd (List.eq_nil_of_length_eq_zero h0) hl⟩⟩
  · refine ⟨_, cap, rfl, ⟨fun _ => ⟨g, rfl, (hc.lt g rfl).2, fun k t hk => ?_⟩⟩⟩
    have key : ∀ j u, (tkV t)[j]? = some u → W.cell? ⟨g, k * 9 + j, none⟩ = some u := fun j u hj => by
      have := (hc.cells (g := g) rfl) (k * 9 + j) u (tkc_get L k j t u hk hj)
      rwa [Addr.add_lit, Nat.zero_add] at this
    exact ⟨key 0 _ rfl, key 1 _ rfl, key 2 _ rfl, key 3 _ rfl, key 4 _ rfl, key 5 _ rfl, key 6 _ rfl, key 7 _ rfl, key 8 _ rfl⟩
end Go.Proofs.YthffklhojdldkaaDoor

namespace Go.Proofs.YthffklhojdldkaaDoor
open Go.RowKit
def lkT (t : Tk) : Tk := { t with fr := 0, en := 0 }
theorem lk_get {L M : List Tk} (h : L.map lkT = M.map lkT) {k : Nat} {t : Tk} (hk : L[k]? = some t) : ∃ u, M[k]? = some u ∧ lkT u = lkT t := by
  have h1 : (L.map lkT)[k]? = some (lkT t) := by rw [List.getElem?_map, hk]; rfl
  rw [h, List.getElem?_map] at h1
  cases hm : M[k]? with
  | none => rw [hm] at h1; cases h1
  | some u => rw [hm] at h1; exact ⟨u, rfl, by simpa using h1⟩
set_option maxRecDepth 100000 in
set_option maxHeartbeats 8000000 in
theorem alike_any (A1 A2 : Option Addr) (c1 c2 : Nat) (L M : List Tk) (hlk : L.map lkT = M.map lkT) (hl : L.length ≤ 20000000) (w : World) (h1 : RdT w A1 L) (h2 : RdT w A2 M) :
    Calls Tryd.prog 12 #[.slice A1 L.length c1, .slice A2 M.length c2] w fun e w' => e = .returned (.bool true) ∧ Below w.heap.size w w' := by
  have hlen : M.length = L.length := by have := congrArg List.length hlk; simpa using this.symm
  have H1 := (show Hid _ from h1)
  have H2 := (show Hid _ from h2)
  have HG := (show Hid (∀ k, k < L.length → ∃ t u, L[k]? = some t ∧ M[k]? = some u ∧ lkT u = lkT t ∧ L ≠ [] ∧ M ≠ []) from fun k hk => by
    obtain ⟨u, hu, he⟩ := lk_get hlk (List.getElem?_eq_getElem hk)
    exact ⟨_, u, List.getElem?_eq_getElem hk, hu, he, by rintro rfl; simp at hk, by rintro rfl; simp at hu⟩)
  clear h1 h2 hlk
  rw [hlen]
  clear hlen
  have t1 : ((L.length : Int) != (L.length : Int)) = false := by simp
  go_enter Tryd.func12, Tryd.ntmps12
  go_wp2_with fail
  go_loopw [5] (fun t wr => ∃ k : Nat, k ≤ L.length ∧ t = .int .i64 k ∧ Hid (Below w.heap.size w wr)) (fun t _ => L.length - (intOf t).toNat)
  case atStart => exact ⟨0, by omega, by go_num, Below.refl _ _⟩
  case round =>
    obtain ⟨k, hk, rfl, HW⟩ := hrel
    by_cases hlt : k < L.length
    · obtain ⟨t, u, hr, hu, he, hne, hne2⟩ := HG.out k hlt
      obtain ⟨g1, rfl, l1, n1⟩ := H1.out.rd hne
      obtain ⟨g2, rfl, l2, n2⟩ := H2.out.rd hne2
      have key1 : ∀ j, wr.cell? ⟨g1, j, none⟩ = w.cell? ⟨g1, j, none⟩ := fun j => HW.out.cell (p := ⟨g1, j, none⟩) l1
      have key2 : ∀ j, wr.cell? ⟨g2, j, none⟩ = w.cell? ⟨g2, j, none⟩ := fun j => HW.out.cell (p := ⟨g2, j, none⟩) l2
      obtain ⟨a0, a1, a2, a3, a4, a5, a6, a7, a8⟩ := n1 k _ hr
      obtain ⟨d0, d1, d2, d3, d4, d5, d6, d7, d8⟩ := n2 k _ hu
      rw [← key1] at a0 a1 a2 a3 a4 a5 a6 a7 a8
      rw [← key2] at d0 d1 d2 d3 d4 d5 d6 d7 d8
      have hg1 : g1 < wr.heap.size := Nat.lt_of_lt_of_le l1 HW.out.size
      have hg2 : g2 < wr.heap.size := Nat.lt_of_lt_of_le l2 HW.out.size
      have z0 : (0 : Int) ≤ (k : Int) := by omega
      have z1 : (k : Int) < (L.length : Int) := by omega
      obtain ⟨kd, nn, fr, en, tx, s0, s1, s2, s3⟩ := t
      obtain ⟨kd', nn', fr', en', tx', s0', s1', s2', s3'⟩ := u
      simp only [lkT, Tk.mk.injEq, true_and] at he
      obtain ⟨rfl, rfl, rfl, rfl, rfl, rfl, rfl⟩ := he
      dsimp only at a0 a1 a2 a3 a4 a5 a6 a7 a8 d0 d1 d2 d3 d4 d5 d6 d7 d8
      have hq : ∀ W, (binOp .neq 36 (.agg #[.int .i64 kd', .int .i64 nn', .int .i64 0, .int .i64 0, .string tx', .int .u64 s0', .int .u64 s1', .int .u64 s2', .int .u64 s3']) (.agg #[.int .i64 kd', .int .i64 nn', .int .i64 0, .int .i64 0, .string tx', .int .u64 s0', .int .u64 s1', .int .u64 s2', .int .u64 s3'])).run Tryd.prog W = .ok (.bool false) W := fun W => tok_neq ⟨kd', nn', 0, 0, tx', s0', s1', s2', s3'⟩ W
      clear hr hu HG H1 H2 n1 n2 hne hne2 key1 key2
      generalize L.length = n at *
      go_wp2_with fail
      go_region
      all_goals
        clear a0 a1 a2 a3 a4 a5 a6 a7 a8 d0 d1 d2 d3 d4 d5 d6 d7 d8
        go_wp2_with fail
        go_roundw
        case rel => exact ⟨k + 1, by omega, by go_num, ((HW.out.alloc HW.out.size _).alloc (Nat.le_trans HW.out.size (by rw [World.size_alloc]; omega)) _).drew⟩
        case measure => simp [intOf]; omega
    · obtain rfl : k = L.length := by omega
      clear HG H1 H2
      go_wp2_with fail
      go_ret
      exact ⟨rfl, HW.out⟩
end Go.Proofs.YthffklhojdldkaaDoor

namespace Go.Proofs.YthffklhojdldkaaDoor
open Go.RowKit
def gpT (r : Nat) : ByteArray := if r = 0 then ⟨#[32]⟩ else if r = 1 then ⟨#[9]⟩ else if r = 2 then ⟨#[13, 10]⟩ else if r = 3 then ⟨#[32, 45, 45, 32, 105, 116, 39, 115, 32, 91, 110, 111, 116, 101, 10]⟩ else if r = 4 then ⟨#[45, 45, 10]⟩ else ⟨#[32, 32, 10]⟩
def gpI (k : Int) : Nat := (k % 18446744073709551616 % 6).toNat
theorem gpI_lt (k : Int) : gpI k < 6 := by unfold gpI; omega
theorem gpI_eq (k : Int) : wrap64 ((IntKind.u64.wrap k).tmod 6) = (gpI k : Int) := by
  unfold gpI wrap64
  rw [IntKind.wrap_u64]
  have h0 : 0 ≤ k % 18446744073709551616 := Int.emod_nonneg _ (by decide)
  rw [Int.tmod_eq_emod_of_nonneg h0]
  omega
set_option maxRecDepth 100000 in
set_option maxHeartbeats 4000000 in
theorem gap_0 (k : Int) (h : gpI k = 0) (w : World) : Calls Tryd.prog 13 #[.int .i64 k] w fun e w' => e = .returned (.string (gpT 0)) ∧ Below w.heap.size w w' := by
  have hr := gpI_eq k
  rw [h] at hr
  have hr : wrap64 ((IntKind.u64.wrap k).tmod 6) = 0 := hr
  clear h
  go_enter Tryd.func13, Tryd.ntmps13
  go_wp2_with fail
  go_ret
  exact ⟨rfl, below_box _ _⟩
set_option maxRecDepth 100000 in
set_option maxHeartbeats 4000000 in
theorem gap_1 (k : Int) (h : gpI k = 1) (w : World) : Calls Tryd.prog 13 #[.int .i64 k] w fun e w' => e = .returned (.string (gpT 1)) ∧ Below w.heap.size w w' := by
  have hr := gpI_eq k
  rw [h] at hr
  have hr : wrap64 ((IntKind.u64.wrap k).tmod 6) = 1 := hr
  clear h
  go_enter Tryd.func13, Tryd.ntmps13
  go_wp2_with fail
  go_ret
  exact ⟨rfl, below_box _ _⟩
set_option maxRecDepth 100000 in
set_option maxHeartbeats 4000000 in
theorem gap_2 (k : Int) (h : gpI k = 2) (w : World) : Calls Tryd.prog 13 #[.int .i64 k] w fun e w' => e = .returned (.string (gpT 2)) ∧ Below w.heap.size w w' := by
  have hr := gpI_eq k
  rw [h] at hr
  have hr : wrap64 ((IntKind.u64.wrap k).tmod 6) = 2 := hr
  clear h
  go_enter Tryd.func13, Tryd.ntmps13
  go_wp2_with fail
  go_ret
  exact ⟨rfl, below_box _ _⟩
set_option maxRecDepth 100000 in
set_option maxHeartbeats 4000000 in
theorem gap_3 (k : Int) (h : gpI k = 3) (w : World) : Calls Tryd.prog 13 #[.int .i64 k] w fun e w' => e = .returned (.string (gpT 3)) ∧ Below w.heap.size w w' := by
  have hr := gpI_eq k
  rw [h] at hr
  have hr : wrap64 ((IntKind.u64.wrap k).tmod 6) = 3 := hr
  clear h
  go_enter Tryd.func13, Tryd.ntmps13
  go_wp2_with fail
  go_ret
  exact ⟨rfl, below_box _ _⟩
set_option maxRecDepth 100000 in
set_option maxHeartbeats 4000000 in
theorem gap_4 (k : Int) (h : gpI k = 4) (w : World) : Calls Tryd.prog 13 #[.int .i64 k] w fun e w' => e = .returned (.string (gpT 4)) ∧ Below w.heap.size w w' := by
  have hr := gpI_eq k
  rw [h] at hr
  have hr : wrap64 ((IntKind.u64.wrap k).tmod 6) = 4 := hr
  clear h
  go_enter Tryd.func13, Tryd.ntmps13
  go_wp2_with fail
  go_ret
  exact ⟨rfl, below_box _ _⟩
set_option maxRecDepth 100000 in
set_option maxHeartbeats 4000000 in
theorem gap_5 (k : Int) (h : gpI k = 5) (w : World) : Calls Tryd.prog 13 #[.int .i64 k] w fun e w' => e = .returned (.string (gpT 5)) ∧ Below w.heap.size w w' := by
  have hr := gpI_eq k
  rw [h] at hr
  have hr : wrap64 ((IntKind.u64.wrap k).tmod 6) = 5 := hr
  clear h
  go_enter Tryd.func13, Tryd.ntmps13
  go_wp2_with fail
  go_ret
  exact ⟨rfl, below_box _ _⟩
theorem gapT_any (k : Int) (w : World) : Calls Tryd.prog 13 #[.int .i64 k] w fun e w' => e = .returned (.string (gpT (gpI k))) ∧ Below w.heap.size w w' := by
  have h := gpI_lt k
  match hg : gpI k, h with
  | 0, _ => exact gap_0 k hg w
  | 1, _ => exact gap_1 k hg w
  | 2, _ => exact gap_2 k hg w
  | 3, _ => exact gap_3 k hg w
  | 4, _ => exact gap_4 k hg w
  | 5, _ => exact gap_5 k hg w
end Go.Proofs.YthffklhojdldkaaDoor

namespace Go.Proofs.YthffklhojdldkaaDoor
open Go.RowKit
/-- A byte of a list, or -1. -/
def cL (L : List Int) (i : Nat) : Int := (L[i]?).getD (-1)
def BL (L : List Int) : Prop := ∀ b ∈ L, 0 ≤ b ∧ b < 256
theorem chr_text {L : List Int} (h : BL L) (i : Nat) : chr (asText L) i = cL L i := by
  unfold cL
  by_cases hi : i < L.length
  · have hi2 : i < (asText L).size := by rw [asText_size]; exact hi
    rw [chr_in hi2, asText_get L i hi2 h, List.getElem?_eq_getElem hi]; rfl
  · rw [chr_out (by rw [asText_size]; exact hi), List.getElem?_eq_none (by omega)]; rfl
theorem cL_left {A B : List Int} {i : Nat} (h : i < A.length) : cL (A ++ B) i = cL A i := by unfold cL; rw [List.getElem?_append_left h]
theorem cL_right (A B : List Int) (i : Nat) : cL (A ++ B) (A.length + i) = cL B i := by
  unfold cL; rw [List.getElem?_append_right (by omega), Nat.add_sub_cancel_left]
theorem cL_byl (s : ByteArray) (i : Nat) : cL (Q.byl s) i = chr s i := by
  unfold cL
  by_cases h : i < s.size
  · rw [Q.byl_get s i h, chr_in h]; rfl
  · rw [List.getElem?_eq_none (by rw [Q.byl_len]; omega), chr_out h]; rfl
theorem ag_piece {s : ByteArray} {L P R : List Int} {a b : Nat} (hB : BL L) (hL : L = P ++ (Q.byl (s.extract a b) ++ R)) (hb : b ≤ s.size) : Ag s a (asText L) P.length (b - a) := fun k hk => by
  have hl : (Q.byl (s.extract a b)).length = b - a := by rw [Q.byl_len, ByteArray.size_extract]; omega
  rw [chr_text hB, hL, cL_right, cL_left (by omega), cL_byl, chr_ext (by omega) hb]
theorem at_piece {L P G R : List Int} (hB : BL L) (hL : L = P ++ (G ++ R)) {j : Nat} (hj : j < G.length) : chr (asText L) (P.length + j) = cL G j := by
  rw [chr_text hB, hL, cL_right, cL_left hj]
theorem gap_bl {s : ByteArray} {p : Nat} (h : chr s p = 9 ∨ chr s p = 10 ∨ chr s p = 13 ∨ chr s p = 32) : gapN s p = gapN s (p + 1) := by
  have hp : p < s.size := chr_lt (by omega)
  rw [gapN_unf, if_pos hp, if_neg (by omega), if_pos h]
theorem gap_nt {s : ByteArray} {p q : Nat} (h1 : chr s p = 45) (h2 : chr s (p + 1) = 45) (hpq : p ≤ q) (h3 : ∀ k, p ≤ k → k < q → lnB (chr s k) = true) (h4 : lnB (chr s q) = false) : gapN s p = gapN s q := by
  have hp : p < s.size := chr_lt (by omega)
  rw [gapN_unf, if_pos hp, if_pos ⟨h1, h2⟩, spN_eq (by decide) hpq h3 h4]
abbrev gapL (r : Nat) : List Int := Q.byl (gpT r)
theorem gapL_0 : gapL 0 = [32] := by decide
theorem gapL_1 : gapL 1 = [9] := by decide
theorem gapL_2 : gapL 2 = [13, 10] := by decide
theorem gapL_3 : gapL 3 = [32, 45, 45, 32, 105, 116, 39, 115, 32, 91, 110, 111, 116, 101, 10] := by decide
theorem gapL_4 : gapL 4 = [45, 45, 10] := by decide
theorem gapL_5 : gapL 5 = [32, 32, 10] := by decide
theorem gap_skip {L P R : List Int} (hB : BL L) (r : Nat) (hr : r < 6) (hL : L = P ++ (gapL r ++ R)) : gapN (asText L) P.length = gapN (asText L) (P.length + (gapL r).length) ∧ stopB (chr (asText L) P.length) = true := by
  match r, hr with
  | 0, _ =>
    rw [gapL_0] at hL ⊢
    have c : ∀ j, j < 1 → chr (asText L) (P.length + j) = cL [32] j := fun j hj => at_piece hB hL hj
    have c0 : chr (asText L) P.length = 32 := c 0 (by decide)
    refine ⟨?_, by rw [c0]; decide⟩
    show _ = gapN (asText L) (P.length + 1)
    exact gap_bl (by omega)
  | 1, _ =>
    rw [gapL_1] at hL ⊢
    have c : ∀ j, j < 1 → chr (asText L) (P.length + j) = cL [9] j := fun j hj => at_piece hB hL hj
    have c0 : chr (asText L) P.length = 9 := c 0 (by decide)
    refine ⟨?_, by rw [c0]; decide⟩
    show _ = gapN (asText L) (P.length + 1)
    exact gap_bl (by omega)
  | 2, _ =>
    rw [gapL_2] at hL ⊢
    have c : ∀ j, j < 2 → chr (asText L) (P.length + j) = cL [13, 10] j := fun j hj => at_piece hB hL hj
    have c0 : chr (asText L) P.length = 13 := c 0 (by decide)
    refine ⟨?_, by rw [c0]; decide⟩
    show _ = gapN (asText L) (P.length + 2)
    have c1 : chr (asText L) (P.length + 1) = 10 := c 1 (by decide)
    rw [gap_bl (s := asText L) (p := P.length) (by omega), gap_bl (s := asText L) (p := P.length + 1) (by omega)]
  | 3, _ =>
    rw [gapL_3] at hL ⊢
    have c : ∀ j, j < 15 → chr (asText L) (P.length + j) = cL [32, 45, 45, 32, 105, 116, 39, 115, 32, 91, 110, 111, 116, 101, 10] j := fun j hj => at_piece hB hL hj
    have c0 : chr (asText L) P.length = 32 := c 0 (by decide)
    refine ⟨?_, by rw [c0]; decide⟩
    show _ = gapN (asText L) (P.length + 15)
    have c1 : chr (asText L) (P.length + 1) = 45 := c 1 (by decide)
    have c2 : chr (asText L) (P.length + 2) = 45 := c 2 (by decide)
    have ce : chr (asText L) (P.length + 14) = 10 := c 14 (by decide)
    rw [gap_bl (s := asText L) (p := P.length) (by omega), gap_nt (s := asText L) (p := P.length + 1) (q := P.length + 14) c1 c2 (by omega) (fun k k1 k2 => ?_) (by rw [ce]; rfl), gap_bl (s := asText L) (p := P.length + 14) (.inr (.inl ce))]
    have := c (k - P.length) (by omega)
    rw [show P.length + (k - P.length) = k from by omega] at this
    rw [this]
    obtain ⟨d, hd⟩ : ∃ d, d = k - P.length := ⟨_, rfl⟩
    rw [← hd]
    match d, (show 1 ≤ d ∧ d < 14 by omega) with
    | 1, _ => rfl
    | 2, _ => rfl
    | 3, _ => rfl
    | 4, _ => rfl
    | 5, _ => rfl
    | 6, _ => rfl
    | 7, _ => rfl
    | 8, _ => rfl
    | 9, _ => rfl
    | 10, _ => rfl
    | 11, _ => rfl
    | 12, _ => rfl
    | 13, _ => rfl
  | 4, _ =>
    rw [gapL_4] at hL ⊢
    have c : ∀ j, j < 3 → chr (asText L) (P.length + j) = cL [45, 45, 10] j := fun j hj => at_piece hB hL hj
    have c0 : chr (asText L) P.length = 45 := c 0 (by decide)
    refine ⟨?_, by rw [c0]; decide⟩
    show _ = gapN (asText L) (P.length + 3)
    have c1 : chr (asText L) (P.length + 1) = 45 := c 1 (by decide)
    have c2 : chr (asText L) (P.length + 2) = 10 := c 2 (by decide)
    rw [gap_nt (s := asText L) (p := P.length) (q := P.length + 2) c0 c1 (by omega) (fun k k1 k2 => ?_) (by rw [c2]; rfl), gap_bl (s := asText L) (p := P.length + 2) (.inr (.inl c2))]
    have := c (k - P.length) (by omega)
    rw [show P.length + (k - P.length) = k from by omega] at this
    rw [this]
    obtain ⟨d, hd⟩ : ∃ d, d = k - P.length := ⟨_, rfl⟩
    rw [← hd]
    match d, (show d < 2 by omega) with
    | 0, _ => rfl
    | 1, _ => rfl
  | 5, _ =>
    rw [gapL_5] at hL ⊢
    have c : ∀ j, j < 3 → chr (asText L) (P.length + j) = cL [32, 32, 10] j := fun j hj => at_piece hB hL hj
    have c0 : chr (asText L) P.length = 32 := c 0 (by decide)
    refine ⟨?_, by rw [c0]; decide⟩
    show _ = gapN (asText L) (P.length + 3)
    have c1 : chr (asText L) (P.length + 1) = 32 := c 1 (by decide)
    have c2 : chr (asText L) (P.length + 2) = 10 := c 2 (by decide)
    rw [gap_bl (s := asText L) (p := P.length) (by omega), gap_bl (s := asText L) (p := P.length + 1) (by omega), gap_bl (s := asText L) (p := P.length + 1 + 1) (.inr (.inl c2))]
def tailB : List Int := [10, 32, 45, 45, 32, 101, 110, 100]
/-- Is a gap put in ahead of the token with a number? -/
def insB (j a fr : Nat) (k : Int) : Bool := !(decide (0 < j) && decide (a = fr) && k.tmod 2 == 0)
/-- The text with more gaps, from a token on. -/
def gpB (s : ByteArray) (kf : Nat → Int) : List Tk → Nat → Nat → List Int
  | [], a, _ => Q.byl (s.extract a s.size) ++ tailB
  | t :: l, a, j => Q.byl (s.extract a t.fr.toNat) ++ ((if insB j a t.fr.toNat (kf j) = true then gapL (gpI (kf j)) else []) ++ (Q.byl (s.extract t.fr.toNat t.en.toNat) ++ gpB s kf l t.en.toNat (j + 1)))
theorem ext_len (s : ByteArray) {a b : Nat} (hb : b ≤ s.size) : (Q.byl (s.extract a b)).length = b - a := by rw [Q.byl_len, ByteArray.size_extract]; omega
/-- Where a gap is not empty a blank stands, or a minus sign. -/
theorem gap_first {s : ByteArray} {a : Nat} (ha : a < gapN s a) (_hs : a ≤ s.size) : hdB (chr s a) = false := by
  have hu := gapN_unf s a
  by_cases hlt : a < s.size
  · rw [if_pos hlt] at hu
    by_cases hn : chr s a = 45 ∧ chr s (a + 1) = 45
    · rw [hn.1]; decide
    · rw [if_neg hn] at hu
      by_cases hb : chr s a = 9 ∨ chr s a = 10 ∨ chr s a = 13 ∨ chr s a = 32
      · rcases hb with q | q | q | q <;> (rw [q]; decide)
      · rw [if_neg hb] at hu; omega
  · rw [if_neg hlt] at hu; omega
theorem fol_gap (s : ByteArray) (kf : Nat → Int) (L : List Int) (hB : BL L) : ∀ (l : List Tk) (a j : Nat) (P : List Int), L = P ++ gpB s kf l a j → 1 ≤ j → a ≤ s.size → Chn s a l → Fol s a (asText L) P.length := by
  intro l
  induction l with
  | nil =>
    intro a j P hL hj ha hc
    have hc : gapN s a = s.size := hc
    rw [gpB] at hL
    by_cases hlt : a < s.size
    · right
      have hag := ag_piece (R := tailB) hB hL (Nat.le_refl _)
      have h0 := hag 0 (by omega)
      rw [Nat.add_zero, Nat.add_zero] at h0
      refine ⟨h0, fun q => ?_⟩
      rw [gap_first (by omega) ha] at q; cases q
    · left
      have hl : (Q.byl (s.extract a s.size)) = [] := List.eq_nil_of_length_eq_zero (by rw [ext_len s (Nat.le_refl _)]; omega)
      rw [hl, List.nil_append] at hL
      have := at_piece (P := P) (G := tailB) (R := []) hB (by rw [List.append_nil]; exact hL) (j := 0) (by decide)
      rw [Nat.add_zero] at this
      rw [this]; decide
  | cons t l ih =>
    intro a j P hL hj ha hc
    obtain ⟨h1, h2, e, e1, e2, e3, h3⟩ := hc
    have hfr := oneP_fr h2
    have hge := gapN_ge s a ha
    rw [gpB, hfr, e1, Int.toNat_natCast, Int.toNat_natCast] at hL
    by_cases hlt : a < gapN s a
    · right
      have hag := ag_piece hB hL (by omega)
      have h0 := hag 0 (by omega)
      rw [Nat.add_zero, Nat.add_zero] at h0
      refine ⟨h0, fun q => ?_⟩
      rw [gap_first hlt ha] at q; cases q
    · have hfa : gapN s a = a := by omega
      rw [hfa] at hL h2 h1 e2
      have hl : (Q.byl (s.extract a a)) = [] := List.eq_nil_of_length_eq_zero (by rw [ext_len s (by omega)]; omega)
      rw [hl, List.nil_append] at hL
      by_cases hi : insB j a a (kf j) = true
      · rw [if_pos hi] at hL
        exact .inl (gap_skip hB _ (gpI_lt _) hL).2
      · rw [if_neg hi, List.nil_append] at hL
        right
        have hag := ag_piece hB hL e3
        have h0 := hag 0 (by omega)
        rw [Nat.add_zero, Nat.add_zero] at h0
        refine ⟨h0, fun q => ?_⟩
        have hn : spN nmB s a = e := by
          unfold oneP at h2
          rw [if_pos q] at h2
          unfold nameR at h2
          split at h2
          · cases h2
          · cases h2; dsimp only at e1; omega
        have hst := (spN_spec nmB s (by decide) _ a rfl).2.2.1
        rw [hn] at hst
        have hP : (P ++ Q.byl (s.extract a e)).length = P.length + (e - a) := by rw [List.length_append, ext_len s e3]
        have hf := ih e (j + 1) (P ++ Q.byl (s.extract a e)) (by rw [List.append_assoc]; exact hL) (by omega) e3 h3
        rw [hP] at hf
        refine ⟨e - a, by omega, run_move (P := nmB) (by decide) hag (by omega) (hf.nm hst), fun q58 => ?_⟩
        rw [show a + (e - a) = e from by omega]
        rcases hf with hf | ⟨hf, _⟩
        · exact absurd q58 (stop_facts hf).2.1
        · rw [← hf]; exact q58
theorem chn_gap (s : ByteArray) (kf : Nat → Int) (L : List Int) (hB : BL L) : ∀ (l : List Tk) (a j : Nat) (P : List Int), L = P ++ gpB s kf l a j → a ≤ s.size → Chn s a l → ∃ l2, Chn (asText L) P.length l2 ∧ l2.map lkT = l.map lkT := by
  intro l
  induction l with
  | nil =>
    intro a j P hL ha hc
    have hc : gapN s a = s.size := hc
    refine ⟨[], ?_, rfl⟩
    show gapN (asText L) P.length = (asText L).size
    rw [gpB] at hL
    have hag := ag_piece (R := tailB) hB hL (Nat.le_refl _)
    have hlen : L.length = P.length + (s.size - a) + 8 := by rw [hL, List.length_append, List.length_append, ext_len s (Nat.le_refl _)]; simp [tailB]; omega
    have hP : (P ++ Q.byl (s.extract a s.size)).length = P.length + (s.size - a) := by rw [List.length_append, ext_len s (Nat.le_refl _)]
    have c : ∀ i, i < 8 → chr (asText L) (P.length + (s.size - a) + i) = cL tailB i := fun i hi => by
      rw [← hP]
      exact at_piece (R := []) hB (by rw [List.append_nil, List.append_assoc]; exact hL) hi
    have c0 : chr (asText L) (P.length + (s.size - a)) = 10 := c 0 (by decide)
    have c1 : chr (asText L) (P.length + (s.size - a) + 1) = 32 := c 1 (by decide)
    have c2 : chr (asText L) (P.length + (s.size - a) + 2) = 45 := c 2 (by decide)
    have c3 : chr (asText L) (P.length + (s.size - a) + 3) = 45 := c 3 (by decide)
    rw [gap_move s (asText L) (s.size - a) (s.size - a) a P.length (Nat.le_refl _) hag (by omega) (by omega) (fun _ => by rw [c0]; rfl)]
    generalize hp : P.length + (s.size - a) = p at *
    have hsz : (asText L).size = p + 8 := by rw [asText_size]; omega
    rw [gap_bl (s := asText L) (p := p) (by omega), gap_bl (s := asText L) (p := p + 1) (by omega), gap_nt (s := asText L) (p := p + 1 + 1) (q := p + 8) c2 c3 (by omega) (fun k k1 k2 => ?_) (by rw [chr_out (by omega)]; rfl), gapN_unf, if_neg (by omega), hsz]
    have := c (k - p) (by omega)
    rw [show p + (k - p) = k from by omega] at this
    rw [this]
    obtain ⟨d, hd⟩ : ∃ d, d = k - p := ⟨_, rfl⟩
    rw [← hd]
    match d, (show 2 ≤ d ∧ d < 8 by omega) with
    | 2, _ => rfl
    | 3, _ => rfl
    | 4, _ => rfl
    | 5, _ => rfl
    | 6, _ => rfl
    | 7, _ => rfl
  | cons t l ih =>
    intro a j P hL ha hc
    obtain ⟨h1, h2, e, e1, e2, e3, h3⟩ := hc
    have hfr := oneP_fr h2
    have hge := gapN_ge s a ha
    obtain ⟨n1, n2⟩ := gap_fix ha h1
    rw [gpB, hfr, e1, Int.toNat_natCast, Int.toNat_natCast] at hL
    obtain ⟨G, hG⟩ : ∃ G, G = if insB j a (gapN s a) (kf j) = true then gapL (gpI (kf j)) else [] := ⟨_, rfl⟩
    rw [← hG] at hL
    have hag := ag_piece hB hL (by omega)
    have g1 := gap_move s (asText L) (gapN s a - a) (gapN s a - a) a P.length (Nat.le_refl _) hag (by omega) (by omega) (fun q => by omega)
    have hP1 : (P ++ Q.byl (s.extract a (gapN s a))).length = P.length + (gapN s a - a) := by rw [List.length_append, ext_len s (by omega)]
    have hL1 : L = (P ++ Q.byl (s.extract a (gapN s a))) ++ (G ++ (Q.byl (s.extract (gapN s a) e) ++ gpB s kf l e (j + 1))) := by rw [List.append_assoc]; exact hL
    have g2 : gapN (asText L) (P.length + (gapN s a - a)) = gapN (asText L) (P.length + (gapN s a - a) + G.length) := by
      by_cases hi : insB j a (gapN s a) (kf j) = true
      · rw [if_pos hi] at hG
        rw [hG] at hL1 ⊢
        rw [← hP1]
        exact (gap_skip hB _ (gpI_lt _) hL1).1
      · rw [if_neg hi] at hG
        rw [hG]; rfl
    have hP2 : (P ++ Q.byl (s.extract a (gapN s a)) ++ G).length = P.length + (gapN s a - a) + G.length := by rw [List.length_append, hP1]
    have hL2 : L = (P ++ Q.byl (s.extract a (gapN s a)) ++ G) ++ (Q.byl (s.extract (gapN s a) e) ++ gpB s kf l e (j + 1)) := by rw [List.append_assoc]; exact hL1
    have hag2 := ag_piece hB hL2 e3
    rw [hP2] at hag2
    have hL3 : L = (P ++ Q.byl (s.extract a (gapN s a)) ++ G ++ Q.byl (s.extract (gapN s a) e)) ++ gpB s kf l e (j + 1) := by rw [List.append_assoc]; exact hL2
    have hP3 : (P ++ Q.byl (s.extract a (gapN s a)) ++ G ++ Q.byl (s.extract (gapN s a) e)).length = P.length + (gapN s a - a) + G.length + (e - gapN s a) := by rw [List.length_append, hP2, ext_len s e3]
    have hf := fol_gap s kf L hB l e (j + 1) _ hL3 (by omega) e3 h3
    obtain ⟨l2, k1, k2⟩ := ih e (j + 1) _ hL3 e3 h3
    rw [hP3] at hf k1
    clear hL hL1 hL2 hL3 hP1 hP2 hP3 hag ih hG
    generalize gapN s a = b0 at *
    generalize P.length + (b0 - a) + G.length = p at *
    have hen : t.en = (b0 + (e - b0) : Nat) := by rw [e1]; omega
    have hst := start_move h1 n1 n2 h2 hen hag2
    have htk := tok_move h1 h2 hen hag2 (by rw [show b0 + (e - b0) = e from by omega]; exact hf)
    have hin := hag2.in (by omega) (by omega)
    have hgp : gapN (asText L) P.length = p := by rw [g1, g2]; exact hst.1
    refine ⟨mvT t p (e - b0) :: l2, ⟨by rw [hgp]; exact hst.2, by rw [hgp]; exact htk, p + (e - b0), rfl, by rw [hgp]; omega, hin, k1⟩, ?_⟩
    rw [List.map_cons, List.map_cons, k2]
    rfl
end Go.Proofs.YthffklhojdldkaaDoor

namespace Go.Proofs.YthffklhojdldkaaDoor
open Go.RowKit
theorem enters13 (args : Array Value) (w : World) : (callFunc 13 args).run Tryd.prog w = .ok (.enter 13 args) w := enters_of Tryd.func13 (by kernel_rfl) rfl args w
theorem step_call1 {F : Nat} (hen : ∀ args w, (callFunc F args).run Tryd.prog w = .ok (.enter F args) w) {ops : Array Oper} {o : Oper} {a : Act} {w : World} {K : Act → World → Prop} {Q : Exit → Act → World → Prop} {E : Prop} (hgd : o.guard = none) (x : Operand) (T : TypeId) (ho : o.op = .call { callee := .value (.func F), args := #[x], argTypes := #[T] }) (v : Value) (hx : a.eval x = v)
    (hc : Calls Tryd.prog F #[v] w fun e w' => ∃ r, e = .returned r ∧ K (a.put o.dst r) w') :
    if Region.wanted o (yielded ops a.tmps) = true then Oper.wp Tryd.prog o a w K Q else E := by
  have hw : Region.wanted o (yielded ops a.tmps) = true := by simp [Region.wanted, hgd]
  rw [if_pos hw]
  have he : (execOp a.eval o).run Tryd.prog w = .ok (.enter F #[v]) w := by
    unfold execOp
    simp [ho, go_sem, invoke, hen]
    rw [← hx]
    cases x <;> simp [Act.eval]
  unfold Oper.wp
  rw [he, Oper.upon_enter]
  refine hc.mono ?_
  rintro e w' ⟨r, rfl, hk⟩
  exact hk
theorem step_append_str {ops : Array Oper} {o : Oper} {a : Act} {w : World} {K : Act → World → Prop} {Q : Exit → Act → World → Prop} {E : Prop} (hgd : o.guard = none) (sl x : Operand) (t u : TypeId)
    (ho : o.op = .call { callee := .builtin .append, args := #[sl, x], argTypes := #[t, u] })
    (base : Nat) (e : TypeId) (i : TypeInfo) (ht : Tryd.prog.underlying t = some (.slice e)) (hu : Tryd.prog.underlying u = some .string) (hi : Tryd.prog.info? e = some i) (hz : i.zero = some (.int .u8 0))
    (hsize : i.size = 1) (hby : i.bytes = 1)
    (v : Value) (n : Nat) (xs : List Value) (hs : a.eval sl = v) (hown : w.ownsRow base e 1 v n xs) (s : ByteArray) (hx : a.eval x = .string s)
    (h63 : n + s.size ≤ maxLen) (hbytes : n + s.size ≤ 140737488355328) (hbase : base ≤ w.heap.size)
    (h : ∀ v' w', w'.ownsRow base e 1 v' (n + s.size) (xs ++ Lib.strCells s) → w.grownBy w' v.ownBlock → K (a.put o.dst v') w') :
    if Region.wanted o (yielded ops a.tmps) = true then Oper.wp Tryd.prog o a w K Q else E := by
  have hw : Region.wanted o (yielded ops a.tmps) = true := by simp [Region.wanted, hgd]
  rw [if_pos hw]
  obtain ⟨v', w', hr, h2, h3, h4⟩ := Lib.run_append_own_string (P := Tryd.prog) w base t u o.type e i ht hu hi hz hsize hby v n xs hown s h63 hbytes hbase
  unfold Oper.wp execOp
  simp only [ho, resolve, invoke, builtin, Sem.run_bind, Sem.run_pure, Result.andThen_ok, List.map_toArray, List.map_cons, List.map_nil, hs, hx, hr]
  exact h v' w' h2 h3
theorem str_byl (s : ByteArray) : Lib.strCells s = (Q.byl s).map (Value.int .u8) := by
  unfold Lib.strCells Q.byl
  rw [List.map_map]; rfl
end Go.Proofs.YthffklhojdldkaaDoor

namespace Go.Proofs.YthffklhojdldkaaDoor
open Go.RowKit
/-- What Lex answers. -/
def LxP (w w' : World) (r : Sum (List Tk) (Nat × Int)) (e : Ending) : Prop := match r with
  | .inr q => e = .returned (.tuple #[.slice none 0 0, .agg #[.int .i64 q.1, .int .i64 q.2]])
  | .inl l => ∃ v, e = .returned (.tuple #[v, .agg #[.int .i64 0, .int .i64 0]]) ∧ w'.ownsRow w.heap.size 36 9 v l.length (tkc l)
/-- Between two tokens. -/
structure AtY (w W : World) (s : ByteArray) (v : Value) (out : List Tk) (i f : Nat) : Prop where
  b : Below w.heap.size w W
  x : FX W w.heap.size 0 0
  g : SG W
  o : W.ownsRow w.heap.size 36 9 v out.length (tkc out)
  hi : i ≤ s.size
  hf : s.size < f + gapN s i
  he : lexGo (oneP s) s f out (gapN s i) = lexR (oneP s) s
  hl : out.length ≤ i
theorem own_stF {W : World} {B n b : Nat} {v : Value} {xs : List Value} {p q : Int} (h : W.ownsRow B 36 9 v n xs) (hx : FX W b p q) (p' q' : Int) : (stF W b p' q').ownsRow B 36 9 v n xs := by
  refine ⟨h.1, ?_⟩
  rcases h.2 with hn | ⟨g, cap, cur, rfl, hB, hgg, rest⟩
  · exact .inl hn
  · refine .inr ⟨g, cap, cur, rfl, hB, ?_, rest⟩
    have hne : g ≠ b := by
      rintro rfl
      rw [hx.heap] at hgg
      injection hgg with h1
      injection h1 with h2 h3
      cases h3
    rw [stF_other p' q' hne]
    exact hgg
theorem own_ne {W : World} {B n b : Nat} {v : Value} {xs : List Value} {p q : Int} (h : W.ownsRow B 36 9 v n xs) (hx : FX W b p q) : v.ownBlock ≠ some b := by
  rcases h.2 with ⟨rfl, _⟩ | ⟨g, cap, cur, rfl, hB, hgg, rest⟩
  · intro q; cases q
  · intro q
    cases q
    rw [hx.heap] at hgg
    injection hgg with h1
    injection h1 with h2 h3
    cases h3
theorem FX.grown {W W' : World} {b : Nat} {p e : Int} {row : Option Nat} (h : FX W b p e) (hg : W.grownBy W' row) (hne : row ≠ some b) : FX W' b p e := ⟨(hg.block b h.lt (fun e => hne e.symm)).trans h.heap⟩
theorem stF_below {B : Nat} {w W : World} {b : Nat} (h : Below B w W) (hb : B ≤ b) (p q : Int) : Below B w (stF W b p q) := (h.setCell (p := ⟨b, 0, none⟩) hb _).setCell (p := ⟨b, 1, none⟩) hb _
theorem ret_lx {fn : Func} {R : Ending → World → Prop} {a : Act} {W : World} {b : Nat} {p e : Int} {v : Value} (hF : fn.results = #[.tmp 2, .cell 3 26]) (hd : a.defers = []) (h2 : a.tmps.getD 2 undef = v) (h3 : a.tmps.getD 3 undef = .pointer (some ⟨b, 0, none⟩)) (hT : FX W b p e) (hR : R (.returned (.tuple #[v, .agg #[.int .i64 p, .int .i64 e]])) W) : bodyPost Tryd.prog fn R .ret a W := by
  have c0 := hT.c0
  have c1 := hT.c1
  refine bodyPost_ret (v := .tuple #[v, .agg #[.int .i64 p, .int .i64 e]]) ?_ hd hR
  simp only [Array.getD_eq_getD_getElem?] at h2 h3
  simp [results, hF, go_sem, h2, h3, c0, c1]
set_option maxRecDepth 100000 in
set_option maxHeartbeats 8000000 in
theorem lexP_of (s : ByteArray) (hs : s.size ≤ 65536)
    (H2 : ∀ b t, b < s.size → oneP s b = .inl t → ∃ e : Nat, t.en = e ∧ b < e ∧ e ≤ s.size) (H3 : ∀ b q, oneP s b = .inr q → q.2 ≠ 0) (w : World) (hg : SG w) :
    Calls Tryd.prog 7 #[.string s] w fun e w' => LxP w w' (lexR (oneP s) s) e ∧ Below w.heap.size w w' := by
  have t1 : ¬ (65536 : Int) < (s.size : Int) := by omega
  obtain ⟨i0, hinf, hz0, hz1, hz2⟩ := info_parts Tryd.info36
  have HB : Hid (∀ k w, k ≤ s.size → Calls Tryd.prog 14 #[.string s, .int .i64 ((k : Nat) : Int)] w fun e w' => e = .returned (.int .i64 (spN blB s k)) ∧ w' = w) := fun k w hk => blanks_any s k (by omega) hk w
  have HLn : Hid (∀ k w, k ≤ s.size → Calls Tryd.prog 16 #[.string s, .int .i64 ((k : Nat) : Int)] w fun e w' => e = .returned (.int .i64 (spN lnB s k)) ∧ w' = w) := fun k w hk => lineEnd_any s k (by omega) hk w
  have HS : Hid (∀ k w, k ≤ s.size → Calls Tryd.prog 15 #[.string s, .int .i64 ((k : Nat) : Int), .string ⟨#[45, 45]⟩] w fun e w' => e = .returned (.bool (pfx s k [45, 45])) ∧ w' = w) := fun k w hk => stands_any s k ⟨#[45, 45]⟩ hk w
  have HO : Hid (∀ b w, b < s.size → SG w → Calls Tryd.prog 17 #[.string s, .int .i64 ((b : Nat) : Int)] w fun e w' => e = .returned (tokP (oneP s b)) ∧ Below w.heap.size w w') := fun b w hb g => readToken_any s b hs hb w g
  have HE := (show Hid ((∀ b t, b < s.size → oneP s b = .inl t → ∃ e : Nat, t.en = e ∧ b < e ∧ e ≤ s.size) ∧ ∀ b q, oneP s b = .inr q → q.2 ≠ 0) from ⟨H2, H3⟩)
  have HG0 := (show Hid (SG w) from hg)
  have H0 := (show Hid (AtY w (w.alloc (fxO 0 0)) s (.slice none 0 0) [] 0 (s.size + 1)) from
    ⟨below_box _ _, ⟨heap_alloc_new w _⟩, hg.later (below_box _ _), World.ownsRow_nil _ _ _ _, by omega, by have := (gapN_bd (s := s) (i := 0) (by omega)).1; omega, by unfold lexR; rw [if_neg (by omega)], Nat.le_refl _⟩)
  clear H2 H3 hg
  go_enter Tryd.func7, Tryd.ntmps7
  go_wp2_with fail
  refine wp_scope_again 2 0 (fun a' W => ∃ (out : List Tk) (i f : Nat) (v u6 u7 u8 u9 u10 u11 u12 u13 u14 u15 u16 u17 u18 u19 u20 u21 u22 u23 u24 u25 u26 u27 u28 u29 u30 u31 u32 u33 u34 u35 u36 u37 u38 u39 u40 u41 u42 u43 u44 : Value), a' = { tmps := #[.string s, undef, .slice none 0 0, .pointer (some ⟨w.heap.size, 0, none⟩), v, .int .i64 i, u6, u7, u8, u9, u10, u11, u12, u13, u14, u15, u16, u17, u18, u19, u20, u21, u22, u23, u24, u25, u26, u27, u28, u29, u30, u31, u32, u33, u34, u35, u36, u37, u38, u39, u40, u41, u42, u43, u44], defers := [] } ∧ Hid (AtY w W s v out i f)) (fun a' _ => s.size - (intOf (a'.tmps.getD 5 undef)).toNat) rfl ?_ ?_
  case refine_2 =>
    rintro a' W ⟨out, i, f, v, u6, u7, u8, u9, u10, u11, u12, u13, u14, u15, u16, u17, u18, u19, u20, u21, u22, u23, u24, u25, u26, u27, u28, u29, u30, u31, u32, u33, u34, u35, u36, u37, u38, u39, u40, u41, u42, u43, u44, rfl, HW⟩
    clear H0
    have hi := HW.out.hi
    have hf := HW.out.hf
    have hol := HW.out.hl
    have hge := spN_ge blB s (by decide) i
    have hle := spN_le blB s (by decide) i hi
    have HBi := (show Hid _ from fun w => HB.out i w hi)
    have HSi := (show Hid _ from fun w => HS.out (spN blB s i) w hle)
    have HLi := (show Hid _ from fun w => HLn.out (spN blB s i) w hle)
    have HGe := (show Hid (spN blB s i = s.size → gapN s i = s.size) from fun h => gapN_end h)
    have HGn := (show Hid (chr s (spN blB s i) = 45 → chr s (spN blB s i + 1) = 45 → gapN s i = gapN s (spN lnB s (spN blB s i)) ∧ spN blB s i < spN lnB s (spN blB s i)) from fun a b => gapN_note a b)
    have HGh := (show Hid (spN blB s i < s.size → ¬ (chr s (spN blB s i) = 45 ∧ chr s (spN blB s i + 1) = 45) → gapN s i = spN blB s i) from fun a b => gapN_here a b)
    have hle2 := spN_le lnB s (by decide) (spN blB s i) hle
    generalize hp : spN blB s i = p at *
    clear HB HS HLn hp
    by_cases hend : p = s.size
    · have HV : Hid (lexR (oneP s) s = .inl out) := by
        show lexR (oneP s) s = _
        rw [← HW.out.he, HGe.out hend]
        obtain ⟨f, rfl⟩ : ∃ g, f = g + 1 := ⟨f - 1, by have := HGe.out hend; omega⟩
        rw [lexGo, if_neg (by omega)]
      have v1 : ((p : Int) == (s.size : Int)) = true := by rw [hend]; exact beq_self_eq_true _
      have f0 := HW.out.x.f0
      have f1' := HW.out.x.f1
      have c0 := HW.out.x.c0
      have c1 := HW.out.x.c1
      clear HSi HLi HGe HGn HGh HO HE hend
      go_wp2_with fail
      refine (HBi.out _).mono ?_
      rintro e W ⟨rfl, rfl⟩
      clear HBi
      go_wp2_with fail
      refine ret_lx rfl rfl rfl rfl (stF_fx HW.out.x 0 0) ⟨?_, stF_below HW.out.b (Nat.le_refl _) 0 0⟩
      rw [HV.out]
      exact ⟨v, rfl, own_stF HW.out.o HW.out.x 0 0⟩
    have v1 : ((p : Int) == (s.size : Int)) = false := by rw [beq_eq_false_iff_ne]; omega
    have hplt : p < s.size := by omega
    by_cases hn : chr s p = 45 ∧ chr s (p + 1) = 45
    · obtain ⟨hg1, hg2⟩ := HGn.out hn.1 hn.2
      have hpf : pfx s p [45, 45] = true := by
        show (chr s p == 45 && (chr s (p + 1) == 45 && true)) = true
        rw [hn.1, hn.2]; rfl
      rw [hpf] at HSi
      generalize spN lnB s p = q at *
      have HW2 := (show Hid (AtY w W s v out q f) from ⟨HW.out.b, HW.out.x, HW.out.g, HW.out.o, hle2, by have := HW.out.hf; rw [hg1] at this; exact this, by rw [← hg1]; exact HW.out.he, by have := HW.out.hl; omega⟩)
      clear HGe HGn HGh HO HE hend hn hg1 hpf HW
      go_wp2_with fail
      refine (HBi.out _).mono ?_
      rintro e W ⟨rfl, rfl⟩
      clear HBi
      go_wp2_with fail
      refine (HSi.out _).mono ?_
      rintro e W ⟨rfl, rfl⟩
      clear HSi
      go_wp2_with fail
      go_step3
      simp (config := { zetaDelta := true }) only [then_goto, inBlock_goto]
      refine Kj_on rfl ?_
      go_wp2_with fail
      refine (HLi.out _).mono ?_
      rintro e W ⟨rfl, rfl⟩
      clear HLi
      go_wp2_with fail
      go_step3
      simp (config := { zetaDelta := true }) only [then_goto]
      refine Kj_back ⟨⟨out, q, f, v, _, _, _, _, _, _, _, _, _, _, _, _, _, _, _, _, _, _, _, _, _, _, _, _, _, _, _, _, _, _, _, _, _, _, _, _, _, _, _, rfl, HW2⟩, ?_⟩
      simp [intOf]
      omega
    · have hg1 := HGh.out hplt hn
      have hpf : pfx s p [45, 45] = false := by
        show (chr s p == 45 && (chr s (p + 1) == 45 && true)) = false
        by_cases h1 : chr s p = 45
        · have h2 : ¬ chr s (p + 1) = 45 := fun q => hn ⟨h1, q⟩
          rw [beq_eq_false_iff_ne.2 h2]; simp
        · rw [beq_eq_false_iff_ne.2 h1]; rfl
      rw [hpf] at HSi
      have HOp := (show Hid (∀ w, SG w → Calls Tryd.prog 17 #[.string s, .int .i64 ((p : Nat) : Int)] w fun e w' => e = .returned (tokP (oneP s p)) ∧ Below w.heap.size w w') from fun w g => HO.out p w hplt g)
      obtain ⟨f, rfl⟩ : ∃ g, f = g + 1 := ⟨f - 1, by omega⟩
      have HU : Hid (lexR (oneP s) s = match oneP s p with
        | .inr q => .inr q
        | .inl t => lexGo (oneP s) s f (out ++ [t]) (gapN s t.en.toNat)) := by show lexR (oneP s) s = _; rw [← HW.out.he, lexGo, hg1, if_pos hplt]; cases oneP s p <;> rfl
      cases ho : oneP s p with
      | inr q =>
        have hne := HE.out.2 p q ho
        have HV : Hid (lexR (oneP s) s = .inr q) := by show lexR (oneP s) s = _; rw [HU.out, ho]
        rw [ho] at HOp
        have t3 : (q.2 != 0) = true := by rw [bne, beq_eq_false_iff_ne.2 hne]; rfl
        clear HGe HGn HGh HO HE hend hn hg1 hpf HLi HU ho hne
        go_wp2_with fail
        refine (HBi.out _).mono ?_
        rintro e W ⟨rfl, rfl⟩
        clear HBi
        go_wp2_with fail
        refine (HSi.out _).mono ?_
        rintro e W ⟨rfl, rfl⟩
        clear HSi
        go_wp2_with fail
        go_step3
        simp (config := { zetaDelta := true }) only [then_goto, inBlock_goto]
        refine Kj_on rfl ?_
        go_wp2_with fail
        refine (HOp.out _ HW.out.g).mono ?_
        rintro e w3 ⟨rfl, b3⟩
        have HB5 := (show Hid (Below w.heap.size w ((w3.alloc (tkO tk0)).alloc (fxO q.1 q.2)) ∧ FX ((w3.alloc (tkO tk0)).alloc (fxO q.1 q.2)) w.heap.size 0 0 ∧ FX ((w3.alloc (tkO tk0)).alloc (fxO q.1 q.2)) (w3.heap.size + 1) q.1 q.2) from
          ⟨(((HW.out.b.trans (b3.mono HW.out.b.size)).alloc (Nat.le_trans HW.out.b.size b3.size) _).alloc (by rw [World.size_alloc]; have := HW.out.b.size; have := b3.size; omega) _), ((HW.out.x.below b3).below (below_box _ _)).below (below_box _ _), ⟨by
            have h := heap_alloc_new (w3.alloc (tkO tk0)) (fxO q.1 q.2)
            rw [World.size_alloc] at h
            exact h⟩⟩)
        have hlt3 := (HW.out.x.below b3).lt
        have ne1 : ¬ w3.heap.size + 1 = w.heap.size := by omega
        have ne2 : ¬ w.heap.size = w3.heap.size + 1 := by omega
        clear b3 HW HOp
        unfold tokP pairV
        go_wp2_with fail
        generalize (w3.alloc (tkO tk0)).alloc (fxO q.1 q.2) = w5 at *
        have f0 := HB5.out.2.1.f0
        have f1' := HB5.out.2.1.f1
        have c0 := HB5.out.2.1.c0
        have c1 := HB5.out.2.1.c1
        have k0 := HB5.out.2.2.c0
        have k1 := HB5.out.2.2.c1
        go_region
        all_goals
          go_wp2_with fail
          simp only [Kj_ret]
          refine ret_lx rfl rfl rfl rfl ((stF_fx HB5.out.2.1 q.1 q.2).below (Below.refl _ _).drew) ⟨?_, (stF_below HB5.out.1 (Nat.le_refl _) q.1 q.2).drew⟩
          rw [HV.out]
          exact rfl
      | inl t =>
        obtain ⟨en, he1, he2, he3⟩ := HE.out.1 p t hplt ho
        have HV : Hid (lexGo (oneP s) s f (out ++ [t]) (gapN s en) = lexR (oneP s) s) := by show _ = lexR (oneP s) s; rw [HU.out, ho]; show _ = lexGo (oneP s) s f (out ++ [t]) (gapN s t.en.toNat); rw [he1]; rfl
        have hgb := gapN_bd he3
        have HEn := (show Hid (t.en = (en : Int)) from he1)
        clear he1
        rw [ho] at HOp
        clear HGe HGn HGh HO HE hend hn hpf HLi HU ho
        go_wp2_with fail
        refine (HBi.out _).mono ?_
        rintro e W ⟨rfl, rfl⟩
        clear HBi
        go_wp2_with fail
        refine (HSi.out _).mono ?_
        rintro e W ⟨rfl, rfl⟩
        clear HSi
        go_wp2_with fail
        go_step3
        simp (config := { zetaDelta := true }) only [then_goto, inBlock_goto]
        refine Kj_on rfl ?_
        go_wp2_with fail
        refine (HOp.out _ HW.out.g).mono ?_
        rintro e w3 ⟨rfl, b3⟩
        have hO : w3.ownsRow w.heap.size 36 9 v out.length (tkc out) := ownB HW.out.o b3
        have HB3 := (show Hid (Below w.heap.size w w3 ∧ FX w3 w.heap.size 0 0 ∧ SG w3) from ⟨HW.out.b.trans (b3.mono HW.out.b.size), HW.out.x.below b3, HW.out.g.later b3⟩)
        have hs3 := HB3.out.1.size
        have HX := (show Hid (TX ((w3.alloc (tkO t)).alloc (fxO 0 0)) w3.heap.size t) from (TX.new w3 t).below (below_box _ _))
        clear b3 HOp HW
        unfold tokP pairV
        obtain ⟨c0, c1, c2, c3, c4, c5, c6, c7, c8⟩ := HX.out.cells
        go_wp2_with (at_builtin; refine wpList_append_lies _ rfl _ _ 23 rfl w.heap.size 36 i0 (tkG tk0) 9 80 Tryd.underlying23 hinf hz0 hz1 hz2 rfl (by decide) _ _ _ rfl (((hO.alloc _).alloc _).alloc _) ⟨w3.heap.size + 1 + 1, 0, none⟩ 1 1 (tkV t) rfl rfl ?c1 (tk_one _) (by decide) ?c3 ?c4 ?c5 (w3.heap.size + 1 + 1 + 1) (by simp) ?_)
        case c1 =>
          have hh := heap_alloc_new ((w3.alloc (tkO t)).alloc (fxO 0 0)) (.cells (tkC t) 36)
          rw [World.size_alloc, World.size_alloc] at hh
          exact World.news_of_block (cs := tkC t) (t := 36) (fr := (0, 0)) hh
        case c3 => unfold maxLen; omega
        case c4 => omega
        case c5 => first | omega | (simp; omega)
        intro g3 cap w4 hown hgrow hat _
        have hgo : ∀ k, v.ownBlock = some k → w.heap.size ≤ k ∧ k < w3.heap.size := fun k e => hO.lt k e
        have hne4 := own_ne hO HB3.out.2.1
        have HX4 := (show Hid (TX w4 w3.heap.size t) from (HX.out.below (below_box _ _)).grown hgrow (fun e => by have := (hgo _ e).2; omega))
        have hb4 : Below w.heap.size w w4 := (((HB3.out.1.alloc hs3 _).alloc (by rw [World.size_alloc]; omega) _).alloc (by rw [World.size_alloc, World.size_alloc]; omega) _).grown hgrow (by rw [World.size_alloc, World.size_alloc, World.size_alloc]; omega) (fun k e => (hgo k e).1)
        have HW4 := (show Hid (AtY w w4 s (.slice (some ⟨g3, 0, none⟩) (out.length + 1) cap) (out ++ [t]) en f) from by
          refine ⟨hb4, (((HB3.out.2.1.below (below_box _ _)).below (below_box _ _)).below (below_box _ _)).grown hgrow hne4, HG0.out.below hb4 HG0.out.lt, ?_, he3, by rw [hg1] at hf; omega, HV.out, by rw [List.length_append, List.length_singleton]; omega⟩
          rw [List.length_append, List.length_singleton, tkc_append, tkc_one]
          exact hown)
        have e3 := HX4.out.cells.c3
        rw [HEn.out] at e3
        clear hown hgrow hat hgo hO HB3 HX HV c0 c1 c2 c3 c4 c5 c6 c7 c8 hne4 hb4 HX4
        go_wp2_with fail
        go_step3
        simp (config := { zetaDelta := true }) only []
        refine Kj_back ⟨⟨out ++ [t], en, f, _, _, _, _, _, _, _, _, _, _, _, _, _, _, _, _, _, _, _, _, _, _, _, _, _, _, _, _, _, _, _, _, _, _, _, _, _, _, _, _, rfl, HW4⟩, ?_⟩
        simp [intOf]
        omega
  case refine_1 =>
    intro hpass
    have HPs := (show Hid _ from hpass)
    clear hpass
    go_wp2_with fail
    go_step3
    rename_i hK
    refine hK _ _ ?_
    refine HPs.out _ _ ?_
    exact ⟨[], 0, s.size + 1, .slice none 0 0, _, _, _, _, _, _, _, _, _, _, _, _, _, _, _, _, _, _, _, _, _, _, _, _, _, _, _, _, _, _, _, _, _, _, _, _, _, _, _, rfl, H0⟩
set_option maxRecDepth 100000 in
set_option maxHeartbeats 8000000 in
theorem lexP_long (s : ByteArray) (hs : 65536 < s.size) (w : World) : Calls Tryd.prog 7 #[.string s] w fun e w' => LxP w w' (lexR (oneP s) s) e ∧ Below w.heap.size w w' := by
  have t1 : (65536 : Int) < (s.size : Int) := by omega
  have HE : Hid (lexR (oneP s) s = .inr (0, 2)) := by show lexR (oneP s) s = _; unfold lexR; rw [if_pos hs]
  go_enter Tryd.func7, Tryd.ntmps7
  go_wp2_with fail
  refine wp_scope_forth 1 0 rfl ?_
  go_wp2_with fail
  simp only [Kj_ret]
  refine ret_lx (b := w.heap.size) (p := 0) (e := 2) rfl rfl rfl rfl ⟨heap_alloc_new w _⟩ ⟨?_, below_box _ _⟩
  rw [HE.out]
  exact rfl
end Go.Proofs.YthffklhojdldkaaDoor

namespace Go.Proofs.YthffklhojdldkaaDoor
open Go.RowKit
theorem lexP_any (s : ByteArray) (w : World) (hg : SG w) : Calls Tryd.prog 7 #[.string s] w fun e w' => LxP w w' (lexR (oneP s) s) e ∧ Below w.heap.size w w' := by
  by_cases hs : s.size ≤ 65536
  · exact lexP_of s hs (fun b t hb h => oneP_en s b t hb h) (fun b q h => oneP_no s b q h) w hg
  · exact lexP_long s (by omega) w
end Go.Proofs.YthffklhojdldkaaDoor
