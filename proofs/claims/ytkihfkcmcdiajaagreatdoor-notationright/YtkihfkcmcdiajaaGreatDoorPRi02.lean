/- NotationRight holds of every text: what is read has right patterns, at most so many rules and nodes, and names; where nothing is read, the fault's place lies in the text; the laid tables runes.blocks and token.signs are tied to the program's text. -/
import Derived.Test.YtkihfkcmcdiajaaGreatDoorPRi01
namespace Go.Proofs.YtkihfkcmcdiajaaGreatDoor.N
open Go.RowKit
theorem szGo_none {E : PE} {z : Nat} : ∀ (rs : List Rl) (all : Nat), all ≤ 2048 → szGo E z all rs = none → (∀ r ∈ rs, (T.ck r.2.2).2 = 0) ∧ all + (rs.map fun r => r.2.2.length).sum ≤ 2048 := by
  intro rs
  induction rs with
  | nil => intro all ha _; exact ⟨fun r hr => (by cases hr), by simpa using ha⟩
  | cons r rs ih =>
    intro all ha h
    rw [szGo] at h
    by_cases h1 : (T.ck r.2.2).2 ≠ 0
    · rw [if_pos h1] at h; cases h
    · rw [if_neg h1] at h
      by_cases h2 : 2048 < all + r.2.2.length
      · rw [if_pos h2] at h; cases h
      · rw [if_neg h2] at h
        obtain ⟨h3, h4⟩ := ih _ (by omega) h
        refine ⟨fun x hx => ?_, by rw [List.map_cons, List.sum_cons]; omega⟩
        rcases List.mem_cons.1 hx with rfl | q
        · exact Decidable.not_not.1 h1
        · exact h3 x q
theorem szR_none {E : PE} {z : Nat} {rs : List Rl} (h : szR E z rs = none) : rs.length ≤ 200 ∧ (∀ r ∈ rs, (T.ck r.2.2).2 = 0) ∧ (rs.map fun r => r.2.2.length).sum ≤ 2048 := by
  unfold szR at h
  cases hr : rs[200]? with
  | some r => rw [hr] at h; cases h
  | none =>
    rw [hr] at h
    obtain ⟨h1, h2⟩ := szGo_none rs 0 (by omega) h
    exact ⟨List.getElem?_eq_none_iff.1 hr, h1, by omega⟩
theorem szGo_some {E : PE} {z : Nat} : ∀ (rs : List Rl) (all : Nat) (p : Int × Int), szGo E z all rs = some p → p.2 ≠ 0 ∧ ∃ i, p.1 = plA E z i := by
  intro rs
  induction rs with
  | nil => intro all p h; rw [szGo] at h; cases h
  | cons r rs ih =>
    intro all p h
    rw [szGo] at h
    by_cases h1 : (T.ck r.2.2).2 ≠ 0
    · rw [if_pos h1] at h; cases h; exact ⟨h1, _, rfl⟩
    · rw [if_neg h1] at h
      by_cases h2 : 2048 < all + r.2.2.length
      · rw [if_pos h2] at h; cases h; exact ⟨by show (2 : Int) ≠ 0; decide, _, rfl⟩
      · rw [if_neg h2] at h; exact ih _ _ h
theorem szR_some {E : PE} {z : Nat} {rs : List Rl} {p : Int × Int} (h : szR E z rs = some p) : p.2 ≠ 0 ∧ ∃ i, p.1 = plA E z i := by
  unfold szR at h
  cases hr : rs[200]? with
  | some r => rw [hr] at h; cases h; exact ⟨by show (2 : Int) ≠ 0; decide, _, rfl⟩
  | none => rw [hr] at h; exact szGo_some rs 0 p h
/-- Where tokens stand. -/
theorem chn_fr {s : ByteArray} : ∀ (l : List Tk) (i : Nat), Chn s i l → ∀ t ∈ l, 0 ≤ t.fr ∧ t.fr ≤ s.size := by
  intro l
  induction l with
  | nil => intro i _ t ht; cases ht
  | cons a l ih =>
    intro i h t ht
    obtain ⟨h1, h2, e, _, _, _, h3⟩ := h
    rcases List.mem_cons.1 ht with rfl | h4
    · have := oneP_fr h2; omega
    · exact ih e h3 t h4
theorem plA_bd {s : ByteArray} {l : List Tk} (h : lexR (oneP s) s = .inl l) (i : Nat) : 0 ≤ plA (mkE l) s.size i ∧ plA (mkE l) s.size i ≤ s.size := by
  unfold plA
  split
  · next hi =>
    have hi : i < l.length := hi
    have : tkA (mkE l) i = l[i] := by unfold tkA mkE; rw [List.getElem?_eq_getElem hi]; rfl
    rw [this]
    exact chn_fr l 0 (lex_chn h).2 _ (List.getElem_mem hi)
  · omega
theorem fin_err {s : ByteArray} {l : List Tk} (hl : lexR (oneP s) s = .inl l) {r : Sum (List Rl) (Nat × Int)} (hr : ∀ q, r = .inr q → q.2 = 60 ∨ q.2 = 61 ∨ q.2 = 4 ∨ q.2 = 1) {p : Int × Int} (h : fin (mkE l) s.size r = .inr p) : p.2 ≠ 0 ∧ 0 ≤ p.1 ∧ p.1 ≤ s.size := by
  unfold fin at h
  cases r with
  | inr q =>
    cases h
    have h1 := hr q rfl
    have h2 := plA_bd hl q.1
    exact ⟨by show q.2 ≠ 0; omega, h2.1, h2.2⟩
  | inl rs =>
    dsimp only at h
    cases hs : szR (mkE l) s.size rs with
    | none => rw [hs] at h; cases h
    | some x =>
      rw [hs] at h
      cases h
      obtain ⟨h1, i, h2⟩ := szR_some hs
      have h3 := plA_bd hl i
      rw [h2]
      exact ⟨h1, h3.1, h3.2⟩
theorem psR_err {s : ByteArray} {p : Int × Int} (h : psR s = .inr p) : p.2 ≠ 0 ∧ 0 ≤ p.1 ∧ p.1 ≤ s.size := by
  unfold psR at h
  cases hl : lexR (oneP s) s with
  | inr q =>
    rw [hl] at h
    cases h
    have := lex_bad hl
    exact ⟨this.2, by show (0 : Int) ≤ (q.1 : Int); omega, by show (q.1 : Int) ≤ _; omega⟩
  | inl l => rw [hl] at h; exact fin_err hl (fun q hq => (rdN_err hq).2) h
theorem fin_ok {E : PE} {z : Nat} {r : Sum (List Rl) (Nat × Int)} {gs : List (ByteArray × List Nd)} (h : fin E z r = .inl gs) : ∃ rs, r = .inl rs ∧ szR E z rs = none ∧ gs = rs.map fun r => r.2 := by
  unfold fin at h
  cases r with
  | inr q => cases h
  | inl rs =>
    dsimp only at h
    cases hs : szR E z rs with
    | some x => rw [hs] at h; cases h
    | none => rw [hs] at h; cases h; exact ⟨rs, rfl, hs, rfl⟩
theorem alN_ok {E : PE} {rs : List Rl} (h : alN E = .inl rs) : ∃ ns, rs = [(0, ⟨#[]⟩, ns)] ∧ who E ns := by
  unfold alN at h
  cases hx : exN E 0 with
  | inr p => rw [hx] at h; cases h
  | inl p =>
    obtain ⟨a, ns⟩ := p
    rw [hx] at h
    dsimp only at h
    have := (ex_adv (Nat.zero_le _) hx).2
    split at h
    · cases h
    · cases h
      refine ⟨ns, rfl, ?_⟩
      unfold who
      rw [hx, show a = E.l.length from by omega]
theorem alN_who {E : PE} {ns : List Nd} (h : who E ns) : alN E = .inl [(0, ⟨#[]⟩, ns)] := by
  unfold alN
  unfold who at h
  rw [h]
  show (if E.l.length < E.l.length then _ else _) = _
  rw [if_neg (Nat.lt_irrefl _)]
theorem szR_one {E : PE} {z : Nat} {ns : List Nd} (h1 : (T.ck ns).2 = 0) (h2 : ns.length ≤ 2048) : szR E z [(0, ⟨#[]⟩, ns)] = none := by
  unfold szR
  show szGo E z 0 [(0, ⟨#[]⟩, ns)] = none
  rw [szGo, if_neg (by rw [h1]; simp), if_neg (by show ¬ 2048 < 0 + ns.length; omega), szGo]
theorem paR_who {s : ByteArray} {l : List Tk} {ns : List Nd} (hl : lexR (oneP s) s = .inl l) (h : who (mkE l) ns) (h1 : (T.ck ns).2 = 0) (h2 : ns.length ≤ 2048) : paR s = .inl [(⟨#[]⟩, ns)] := by
  unfold paR
  rw [hl]
  show fin (mkE l) s.size (alN (mkE l)) = _
  rw [alN_who h]
  unfold fin
  simp only [szR_one h1 h2]
  rfl
theorem ck_len {L : List Nd} (h : (T.ck L).2 = 0) : L.length ≤ 2048 := by
  unfold T.ck at h
  by_cases q : 2048 < L.length
  · rw [if_pos q] at h; exact absurd h (by decide)
  · omega
end Go.Proofs.YtkihfkcmcdiajaaGreatDoor.N

namespace Go.Proofs.YtkihfkcmcdiajaaGreatDoor.N
open Go.RowKit
def dot : ByteArray := ⟨#[46]⟩
theorem lex_dot : lexR (oneP dot) dot = .inl [⟨18, 0, 0, 1, ⟨#[]⟩, 0, 0, 0, 0⟩] := rfl
theorem ex_dot : exN (mkE [⟨18, 0, 0, 1, ⟨#[]⟩, 0, 0, 0, 0⟩]) 0 = .inl (1, [nd0 3]) := rfl
theorem ck_any : (T.ck [nd0 3]).2 = 0 := by
  have e : (⟨#[]⟩ : ByteArray) = ByteArray.empty := rfl
  simp [nd0, T.ck, T.ckGo, T.er, T.alE, T.fdF, T.txF, T.nuF, T.seF, T.ar, T.run, T.pt, T.mk, T.arN, T.opAt, e]
theorem pa_dot : paR dot = .inl [(⟨#[]⟩, [nd0 3])] := paR_who lex_dot ex_dot ck_any (by simp)
theorem fx_eql (a b c d : Int) (W : World) : (binOp .eql 27 (.agg #[.int .i64 a, .int .i64 b]) (.agg #[.int .i64 c, .int .i64 d])).run Tryz.prog W = .ok (.bool (a == c && b == d)) W := by
  have h := eq26 a b c d W
  have e : Op.maxDepth = 10000 := rfl
  simp [binOp, Op.equal, e, h]
set_option maxRecDepth 100000 in
set_option maxHeartbeats 8000000 in
theorem lives_any (w : World) (hg : GW w) : Calls Tryz.prog 11 #[] w fun e w' => e = .returned (.bool true) ∧ Below w.heap.size w w' := by
  have HP : Hid (∀ _ : Unit, Calls Tryz.prog 13 #[.string ⟨#[46]⟩] w fun e w' => (∃ v, e = .returned (.tuple #[v, .agg #[.int .i64 0, .int .i64 0]]) ∧ w'.ownsRow w.heap.size 51 7 v 1 (T.ndc [nd0 3])) ∧ Below w.heap.size w w') := fun _ => by
    refine (patt_any dot w hg).mono ?_
    rintro e w' ⟨h1, h2⟩
    rw [pa_dot] at h1
    obtain ⟨v, ns, h3, h4, h5⟩ := h1
    have e1 : [nd0 3] = ns := by
      injection h3 with h6 _
      injection h6 with _ h8
    subst e1
    exact ⟨⟨v, h4, h5⟩, h2⟩
  have hfe := fx_eql
  clear hg
  go_enter Tryz.func11, Tryz.ntmps11
  go_wp2_with fail
  refine (HP.out ()).mono ?_
  rintro e w1 ⟨⟨v, rfl, ho⟩, hb⟩
  obtain ⟨g, c, rfl, _, hlt⟩ := ho.form (by decide)
  have hc : w1.cell? ⟨g, 0, none⟩ = some (.int .i64 3) := by
    have := ho.cells (g := g) rfl 0 (.int .i64 3) rfl
    rwa [Addr.add_lit, Nat.zero_add] at this
  have hc2 : ∀ o, (w1.alloc o).cell? ⟨g, 0, none⟩ = some (.int .i64 3) := fun o => ((below_box w1 o).cell (p := ⟨g, 0, none⟩) hlt).trans hc
  have HB := (show Hid (Below w.heap.size w w1) from hb)
  have hn : ¬ g = w1.heap.size := by omega
  clear hb ho HP
  go_wp2_with fail
  go_ret
  exact ⟨rfl, HB.out.alloc HB.out.size _⟩
end Go.Proofs.YtkihfkcmcdiajaaGreatDoor.N

namespace Go.Proofs.YtkihfkcmcdiajaaGreatDoor.N
open Go.RowKit
theorem rlG_nm {E : PE} (P : Nat → Prop) (hP : ∀ i, ruB E i = true → P i) : ∀ (f i : Nat) (out rs : List Rl), (∀ r ∈ out, P r.1 ∧ r.2.1 = (tkA E r.1).tx) → rlG (exN E) E f i out = .inl rs → out.length ≤ rs.length ∧ ∀ r ∈ rs, P r.1 ∧ r.2.1 = (tkA E r.1).tx := by
  intro f
  induction f with
  | zero => intro i out rs h0 h; rw [rlG] at h; cases h; exact ⟨Nat.le_refl _, h0⟩
  | succ f ih =>
    intro i out rs h0 h
    rw [rlG] at h
    by_cases hi : i < E.l.length
    · rw [if_pos hi] at h
      by_cases hr : ruB E i = true
      · rw [if_pos hr] at h
        cases he : exN E (i + 2) with
        | inr p => rw [he] at h; cases h
        | inl p =>
          rw [he] at h
          obtain ⟨h1, h2⟩ := ih _ _ _ (fun r hr2 => by
            rcases List.mem_append.1 hr2 with q | q
            · exact h0 r q
            · rw [List.mem_singleton.1 q]; exact ⟨hP i hr, rfl⟩) h
          rw [List.length_append] at h1
          exact ⟨by omega, h2⟩
      · rw [if_neg hr] at h; cases h
    · rw [if_neg hi] at h; cases h; exact ⟨Nat.le_refl _, h0⟩
theorem rlG_one {E : PE} (hr : ruB E 0 = true) {rs : List Rl} (h : rlG (exN E) E (E.l.length + 1) 0 [] = .inl rs) : 1 ≤ rs.length := by
  have h0 := ru_lt hr
  rw [rlG, if_pos (by omega), if_pos hr] at h
  cases he : exN E (0 + 2) with
  | inr p => rw [he] at h; cases h
  | inl p =>
    rw [he] at h
    have := (rlG_nm (fun _ => True) (fun _ _ => trivial) _ _ _ _ (fun r hr2 => by rw [List.mem_singleton.1 hr2]; exact ⟨trivial, rfl⟩) h).1
    exact this
/-- A name's text is not empty. -/
theorem nm_pos {s : ByteArray} {l : List Tk} (h : lexR (oneP s) s = .inl l) {i : Nat} (hk : ruB (mkE l) i = true) : 0 < (tkA (mkE l) i).tx.size := by
  have h2 := ru_lt hk
  have hi : i < l.length := by
    have : i + 2 ≤ l.length := h2
    omega
  have hk1 : kdA (mkE l) i = 1 := by
    unfold ruB at hk
    simp only [Bool.and_eq_true, beq_iff_eq] at hk
    exact hk.1
  unfold kdA mkE at hk1
  rw [List.getElem?_eq_getElem hi] at hk1
  have hk1 : (l[i]).kd = 1 := hk1
  have e : tkA (mkE l) i = l[i] := by unfold tkA mkE; rw [List.getElem?_eq_getElem hi]; rfl
  rw [e]
  have h1 := (lex_rgt h l[i] (List.getElem_mem hi)).r
  unfold riF at h1
  simp only [Bool.and_eq_true] at h1
  have h3 := h1.1.1.2
  rw [hk1] at h3
  unfold txF at h3
  rw [if_pos rfl] at h3
  unfold isNm at h3
  simp only [Bool.and_eq_true, decide_eq_true_eq] at h3
  exact h3.1.1.1
/-- A grammar that Parse tells. -/
theorem psR_ok {s : ByteArray} {gs : List (ByteArray × List Nd)} (h : psR s = .inl gs) : 1 ≤ gs.length ∧ gs.length ≤ 200 ∧ (∀ g ∈ gs, (T.ck g.2).2 = 0 ∧ g.2.length ≤ 2048 ∧ ∀ n ∈ g.2, n.tx.size ≤ 65536) ∧ (gs.map fun g => g.2.length).sum ≤ 2048 ∧ (1 < gs.length → ∀ g ∈ gs, 0 < g.1.size) := by
  unfold psR at h
  cases hl : lexR (oneP s) s with
  | inr q => rw [hl] at h; cases h
  | inl l =>
    rw [hl] at h
    obtain ⟨rs, h1, h2, h3⟩ := fin_ok h
    obtain ⟨z1, z2, z3⟩ := szR_none h2
    have htx := rdN_tx (okE_of hl) h1
    have key : 1 ≤ rs.length ∧ (1 < rs.length → ∀ r ∈ rs, 0 < r.2.1.size) := by
      by_cases hr : ruB (mkE l) 0 = true
      · have h4 : rlG (exN (mkE l)) (mkE l) ((mkE l).l.length + 1) 0 [] = .inl rs := by rw [← h1]; unfold rdN; rw [if_pos hr]
        refine ⟨rlG_one hr h4, fun _ r hr2 => ?_⟩
        obtain ⟨q1, q2⟩ := (rlG_nm (fun i => 0 < (tkA (mkE l) i).tx.size) (fun i hi => nm_pos hl hi) _ _ _ _ (fun r hr => by cases hr) h4).2 r hr2
        rw [q2]
        exact q1
      · rw [rdN_al hr] at h1
        obtain ⟨ns, rfl, _⟩ := alN_ok h1
        exact ⟨Nat.le_refl _, fun q => absurd q (by simp)⟩
    subst h3
    refine ⟨by rw [List.length_map]; exact key.1, by rw [List.length_map]; exact z1, fun g hg => ?_, ?_, fun q g hg => ?_⟩
    · obtain ⟨r, hr, rfl⟩ := List.mem_map.1 hg
      exact ⟨z2 r hr, ck_len (z2 r hr), htx r hr⟩
    · rw [List.map_map]
      exact z3
    · obtain ⟨r, hr, rfl⟩ := List.mem_map.1 hg
      exact key.2 (by rwa [List.length_map] at q) r hr
end Go.Proofs.YtkihfkcmcdiajaaGreatDoor.N

namespace Go.Proofs.YtkihfkcmcdiajaaGreatDoor.N
open Go.RowKit
theorem grc_get (L : List (Rl × Value)) : ∀ (k j : Nat) (x : Rl × Value) (u : Value), L[k]? = some x → (grV x)[j]? = some u → (grc L)[k * 2 + j]? = some u := by
  induction L with
  | nil => intro k j t u h; simp at h
  | cons a L ih =>
    intro k j t u h hj
    have e : grc (a :: L) = grV a ++ grc L := by unfold grc; rw [List.flatMap_cons]
    have hl : (grV a).length = 2 := rfl
    rw [e]
    cases k with
    | zero =>
      have h : a = t := by simpa using h
      subst h
      rw [Nat.zero_mul, Nat.zero_add, List.getElem?_append_left (by have := (List.getElem?_eq_some_iff.1 hj).1; omega)]
      exact hj
    | succ k =>
      rw [List.getElem?_append_right (by omega), hl, show (k + 1) * 2 + j - 2 = k * 2 + j from by omega]
      exact ih k j t u (by simpa using h) hj
theorem own_gr {W : World} {B : Nat} {u : Value} {ov : List (Rl × Value)} (h : W.ownsRow B 41 2 u ov.length (grc ov)) : ∃ A c, u = .slice A ov.length c ∧ ∀ (k : Nat) x, ov[k]? = some x → ∃ g, A = some ⟨g, 0, none⟩ ∧ g < W.heap.size ∧ W.cell? ⟨g, k * 2, none⟩ = some (.string x.1.2.1) ∧ W.cell? ⟨g, k * 2 + 1, none⟩ = some x.2 := by
  have hc := h
  rcases h.2 with ⟨rfl, h0⟩ | ⟨g, cap, cur, rfl, _⟩
  · refine ⟨none, 0, by rw [h0], fun k x hk => ?_⟩
    rw [List.eq_nil_of_length_eq_zero h0] at hk
    simp at hk
  · refine ⟨_, cap, rfl, fun k x hk => ⟨g, rfl, (hc.lt g rfl).2, ?_⟩⟩
    have key : ∀ j u, (grV x)[j]? = some u → W.cell? ⟨g, k * 2 + j, none⟩ = some u := fun j u hj => by
      have := (hc.cells (g := g) rfl) (k * 2 + j) u (grc_get ov k j x u hk hj)
      rwa [Addr.add_lit, Nat.zero_add] at this
    exact ⟨key 0 _ rfl, key 1 _ rfl⟩
theorem smN_le (ov : List (Rl × Value)) (k : Nat) : smN ov k ≤ (ov.map fun x => x.1.2.2.length).sum := by
  unfold smN
  have h : (ov.map fun x => x.1.2.2.length).sum = ((ov.take k).map fun x => x.1.2.2.length).sum + ((ov.drop k).map fun x => x.1.2.2.length).sum := by
    rw [← List.sum_append, ← List.map_append, List.take_append_drop]
  omega
theorem emp_t {s : ByteArray} (h : ¬ 0 < s.size) : (s.toList == []) = true := by rw [emp_of h, ByteArray.toList_eq]; rfl
set_option maxRecDepth 100000 in
set_option maxHeartbeats 8000000 in
theorem right_no (s : ByteArray) (hs2 : s.size ≤ 140737488355000) (w : World) (hg : GW w) (p : Int × Int) (hp : psR s = .inr p) : Calls Tryz.prog 5 #[.string s] w fun e w' => e = .returned (.bool true) ∧ Below w.heap.size w w' := by
  have HP : Hid (∀ _ : Unit, Calls Tryz.prog 9 #[.string s] w fun e w' => e = .returned (.tuple #[.agg #[.slice none 0 0], .agg #[.int .i64 p.1, .int .i64 p.2]]) ∧ Below w.heap.size w w') := fun _ => by
    have := parse_any s w hg
    rw [hp] at this
    exact this
  have HL : Hid (∀ W, GW W → Calls Tryz.prog 11 #[] W fun e w' => e = .returned (.bool true) ∧ Below W.heap.size W w') := fun W h => lives_any W h
  have HG := (show Hid (GW w) from hg)
  obtain ⟨h1, h2, h3⟩ := psR_err hp
  have t1 : (p.2 != 0) = true := by simpa using h1
  obtain ⟨p1, p2⟩ := p
  simp only at h1 h2 h3 t1 HP
  have h4 : ((s.size : Nat) : Int) ≤ 140737488355000 := by omega
  clear hg hp h1 hs2
  go_enter Tryz.func5, Tryz.ntmps5
  go_wp2_with fail
  refine (HP.out ()).mono ?_
  rintro e w1 ⟨rfl, hb⟩
  have HB := (show Hid (Below w.heap.size w ((w1.alloc (.cells #[.slice none 0 0] 24)).alloc (.cells #[.int .i64 p1, .int .i64 p2] 27)) ∧ GX ((w1.alloc (.cells #[.slice none 0 0] 24)).alloc (.cells #[.int .i64 p1, .int .i64 p2] 27)) w1.heap.size (.slice none 0 0) ∧ FX ((w1.alloc (.cells #[.slice none 0 0] 24)).alloc (.cells #[.int .i64 p1, .int .i64 p2] 27)) (w1.heap.size + 1) p1 p2) from
    ⟨(hb.alloc hb.size _).alloc (by rw [World.size_alloc]; have := hb.size; omega) _, (GX.mk (heap_alloc_new w1 _)).below (below_box _ _), ⟨by have h := heap_alloc_new (w1.alloc (.cells #[.slice none 0 0] 24)) (.cells #[.int .i64 p1, .int .i64 p2] 27); rw [World.size_alloc] at h; exact h⟩⟩)
  clear hb HP
  go_wp2_with fail
  generalize (w1.alloc (.cells #[.slice none 0 0] 24)).alloc (.cells #[.int .i64 p1, .int .i64 p2] 27) = w2 at *
  refine (HL.out _ (HG.out.later HB.out.1)).mono ?_
  rintro e w3 ⟨rfl, hb⟩
  have HB2 := (show Hid (Below w.heap.size w w3 ∧ GX w3 w1.heap.size (.slice none 0 0) ∧ FX w3 (w1.heap.size + 1) p1 p2) from ⟨HB.out.1.trans (hb.mono HB.out.1.size), HB.out.2.1.below hb, HB.out.2.2.below hb⟩)
  have g0 := HB2.out.2.1.cl
  have c0 := HB2.out.2.2.c0
  clear hb HB HL
  go_wp2_with fail
  go_ret
  exact ⟨rfl, HB2.out.1⟩
/-- While the rules are looked at. -/
structure AtT (w wr : World) (k : Nat) (u : Value) (ov : List (Rl × Value)) : Prop where
  b : Below w.heap.size w wr
  x : GX wr k u
  o : wr.ownsRow w.heap.size 41 2 u ov.length (grc ov)
  bd : Bds w wr ov
theorem AtT.later {w wr W' : World} {k : Nat} {u : Value} {ov : List (Rl × Value)} (h : AtT w wr k u ov) (hb : Below wr.heap.size wr W') : AtT w W' k u ov :=
  ⟨h.b.trans (hb.mono h.b.size), h.x.below hb, ownB h.o hb, h.bd.later hb⟩
set_option maxRecDepth 100000 in
set_option maxHeartbeats 8000000 in
theorem right_ok (s : ByteArray) (w : World) (hg : GW w) (gs : List (ByteArray × List Nd)) (hp : psR s = .inl gs) : Calls Tryz.prog 5 #[.string s] w fun e w' => e = .returned (.bool true) ∧ Below w.heap.size w w' := by
  have HP : Hid (∀ _ : Unit, Calls Tryz.prog 9 #[.string s] w fun e w' => (∃ u ov, e = .returned (.tuple #[.agg #[u], .agg #[.int .i64 0, .int .i64 0]]) ∧ w'.ownsRow w.heap.size 41 2 u ov.length (grc ov) ∧ Bds w w' ov ∧ ov.map (fun x => x.1.2) = gs) ∧ Below w.heap.size w w') := fun _ => by
    have := parse_any s w hg
    rw [hp] at this
    exact this
  have HL : Hid (∀ W, GW W → Calls Tryz.prog 11 #[] W fun e w' => e = .returned (.bool true) ∧ Below W.heap.size W w') := fun W h => lives_any W h
  have HG := (show Hid (GW w) from hg)
  have HO := (show Hid _ from psR_ok hp)
  clear hg hp
  go_enter Tryz.func5, Tryz.ntmps5
  go_wp2_with fail
  refine (HP.out ()).mono ?_
  rintro e w1 ⟨⟨u, ov, rfl, ho, hbd, hgs⟩, hb⟩
  subst hgs
  obtain ⟨hn1, hn2, hck, hsum, hnm⟩ := HO.out
  rw [List.length_map] at hn1 hn2 hnm
  rw [List.map_map] at hsum
  have hsum : (ov.map fun x => x.1.2.2.length).sum ≤ 2048 := hsum
  have HCk := (show Hid (∀ x ∈ ov, (T.ck x.1.2.2).2 = 0 ∧ x.1.2.2.length ≤ 2048 ∧ ∀ n ∈ x.1.2.2, n.tx.size ≤ 65536) from fun x hx => hck _ (List.mem_map.2 ⟨x, hx, rfl⟩))
  have HNm := (show Hid (∀ x ∈ ov, ¬ 0 < x.1.2.1.size → ¬ 1 < ov.length) from fun x hx h1 h2 => h1 (hnm h2 _ (List.mem_map.2 ⟨x, hx, rfl⟩)))
  have HSm := (show Hid (∀ k, smN ov k ≤ 2048) from fun k => Nat.le_trans (smN_le ov k) hsum)
  obtain ⟨A, c, hu, _⟩ := own_gr ho
  have HA := (show Hid (AtT w ((w1.alloc (.cells #[u] 24)).alloc fxZ) w1.heap.size u ov) from
    ⟨(hb.alloc hb.size _).alloc (by rw [World.size_alloc]; have := hb.size; omega) _, (GX.mk (heap_alloc_new w1 _)).below (below_box _ _), (ho.alloc _).alloc _, (hbd.later (below_box _ _)).later (below_box _ _)⟩)
  have HF := (show Hid (FX ((w1.alloc (.cells #[u] 24)).alloc fxZ) (w1.heap.size + 1) 0 0) from ⟨by have h := heap_alloc_new (w1.alloc (.cells #[u] 24)) fxZ; rw [World.size_alloc] at h; exact h⟩)
  subst hu
  have hk : ∃ k, k = w1.heap.size := ⟨_, rfl⟩
  clear HP HO hb ho hbd hck hsum hnm
  have HG1 := (show Hid (∀ k, k < ov.length → ∃ x, ov[k]? = some x ∧ x ∈ ov) from fun k hk => ⟨_, List.getElem?_eq_getElem hk, List.getElem_mem hk⟩)
  have z1 : ¬ (ov.length : Int) < 1 := by omega
  have z2 : ¬ (200 : Int) < (ov.length : Int) := by omega
  have g0 := HA.out.x.cl
  have c0 := HF.out.c0
  have c1 := HF.out.c1
  go_wp2_with fail
  clear g0 c0 c1 HF
  generalize (w1.alloc (.cells #[.slice A ov.length c] 24)).alloc fxZ = w2 at *
  generalize w1.heap.size = b at *
  clear hk
  have hg0 := HA.out.x.cl
  go_wp2_with fail
  go_loopw [5, 6] (fun s t wr => ∃ k : Nat, k ≤ ov.length ∧ smN ov k ≤ 2048 ∧ s = .int .i64 (smN ov k : Nat) ∧ t = .int .i64 k ∧ Hid (AtT w wr b (.slice A ov.length c) ov)) (fun _ t _ => ov.length - (intOf t).toNat)
  case atStart => exact ⟨0, Nat.zero_le _, Nat.zero_le _, rfl, rfl, HA⟩
  case round =>
    obtain ⟨k, hk, hsm, rfl, rfl, HW⟩ := hrel
    clear HA
    have g0 := HW.out.x.cl
    by_cases hlt : k < ov.length
    · obtain ⟨x, hx, hxm⟩ := HG1.out k hlt
      obtain ⟨A1, c1, e1, hc⟩ := own_gr HW.out.o
      obtain ⟨g, hgA, hglt, d0, d1⟩ := hc k x hx
      cases e1
      subst hgA
      have hb1 := HW.out.bd.e x hxm
      obtain ⟨A2, n2, hv2⟩ := own_form hb1
      obtain ⟨q1, q2, q3⟩ := HCk.out x hxm
      have HC : Hid (∀ W2, Below wr.heap.size wr W2 → Calls Tryz.prog 16 #[.slice A2 x.1.2.2.length n2] W2 fun e w' => e = .returned (.tuple #[.int .i64 (T.ck x.1.2.2).1, .int .i64 0]) ∧ Below W2.heap.size W2 w') := fun W2 hW2 => by
        have hrow := own_same (W' := W2) hb1 fun j hj => hW2.block j (hb1.lt j hj).2
        rw [hv2] at hrow
        obtain ⟨A3, c3, e3, hrd⟩ := T.own_rd hrow rfl
        cases e3
        have := T.check_any x.1.2.2 _ n2 (by omega) (fun n hn => by have := q3 n hn; omega) W2 hrd
        rw [q1] at this
        exact this
      have HX := (show Hid (∀ W', Below wr.heap.size wr W' → W'.cell? ⟨g, k * 2, none⟩ = some (.string x.1.2.1) ∧ W'.cell? ⟨g, k * 2 + 1, none⟩ = some (.slice A2 x.1.2.2.length n2)) from fun W' hW => ⟨(hW.cell (p := ⟨g, k * 2, none⟩) hglt).trans d0, (hW.cell (p := ⟨g, k * 2 + 1, none⟩) hglt).trans (by rw [← hv2]; exact d1)⟩)
      have hsm1 := smN_succ hx
      have hsm2 := HSm.out (k + 1)
      have HNx := (show Hid (¬ 0 < x.1.2.1.size → ¬ 1 < ov.length) from HNm.out x hxm)
      have HM := (show Hid (smN ov (k + 1) = smN ov k + x.1.2.2.length) from hsm1)
      clear hx hxm hc d0 d1 hb1 hv2 q1 q2 q3 HG1 HCk HNm HSm
      generalize (T.ck x.1.2.2).1 = r at *
      generalize x.1.2.2.length = nl at *
      generalize x.1.2.1 = nm at *
      have z0 : (0 : Int) ≤ (k : Int) := by omega
      have z3 : (k : Int) < (ov.length : Int) := by omega
      obtain ⟨d0, d1⟩ := HX.out wr (Below.refl _ _)
      go_wp2_with fail
      refine (HC.out _ (Below.refl _ _)).mono ?_
      rintro e w3 ⟨rfl, hb3⟩
      have HW3 := (show Hid (AtT w w3 b (.slice (some ⟨g, 0, none⟩) ov.length c) ov) from HW.out.later hb3)
      obtain ⟨y0, y1⟩ := HX.out w3 hb3
      have g3 := HW3.out.x.cl
      clear HC HX HW hb3 d0 d1 g0
      obtain ⟨m1, hm1⟩ : ∃ m, m = smN ov (k + 1) := ⟨_, rfl⟩
      rw [← hm1] at hsm1 hsm2 HM
      have u1 : IntKind.i64.wrap ((smN ov k : Nat) + (nl : Int)) = (m1 : Int) := by rw [IntKind.wrap_i64]; omega
      have HM1 := (show Hid (m1 = smN ov (k + 1)) from hm1)
      clear hsm1 hm1 HM
      generalize hs0 : smN ov k = s0 at *
      clear hs0
      by_cases hne : 0 < nm.size
      · have t1 := ne_emp hne
        clear hne HNx
        go_wp2_with fail
        go_roundw
        case rel => exact ⟨k + 1, by omega, by rw [← HM1.out]; omega, by rw [← HM1.out], by go_num, HW3⟩
        case measure => simp [intOf]; omega
      · have t1 := emp_t hne
        have t2 : ¬ (1 : Int) < (ov.length : Int) := by have := HNx.out hne; omega
        clear hne HNx
        go_wp2_with fail
        go_roundw
        case rel => exact ⟨k + 1, by omega, by rw [← HM1.out]; omega, by rw [← HM1.out], by go_num, HW3⟩
        case measure => simp [intOf]; omega
    · obtain rfl : k = ov.length := by omega
      have z5 : (smN ov ov.length : Int) ≤ 2048 := by omega
      clear HG1 HCk HNm HSm
      generalize smN ov ov.length = s0 at *
      go_wp2_with fail
      refine (HL.out _ (HG.out.later HW.out.b)).mono ?_
      rintro e w3 ⟨rfl, hb⟩
      have HB2 := (show Hid (Below w.heap.size w w3) from HW.out.b.trans (hb.mono HW.out.b.size))
      clear hb HL HW g0
      go_wp2_with fail
      go_ret
      exact ⟨rfl, HB2.out⟩
/-- NotationRight, at any text. -/
theorem right_any (s : ByteArray) (hs2 : s.size ≤ 140737488355000) (w : World) (hg : GW w) : Calls Tryz.prog 5 #[.string s] w fun e w' => e = .returned (.bool true) ∧ Below w.heap.size w w' := by
  cases hp : psR s with
  | inr p => exact right_no s hs2 w hg p hp
  | inl gs => exact right_ok s w hg gs hp
end Go.Proofs.YtkihfkcmcdiajaaGreatDoor.N

namespace Go.Proofs.YtkihfkcmcdiajaaGreatDoor
open Go.ChangeShapes Go.WideShapes Go.ChangeAt Go.RowKit
open Go.ChangeMaps (open_string shut_string)
set_option maxRecDepth 100000 in
theorem notationRight_contract (H : Type) (enc : TypeId × Value → H) (W : World) (base : Nat) (args : Array Value) (ds gs : List (DataW H)) (before : List MemPlace)
    (hval0 : ∀ (j : Nat) t v, Tryz.f5.params[j]? = some t → args[j]? = some v → Value.okWide Tryz.prog W .any base t v)
    (hW : DataW.Whole enc Tryz.prog Tryz.f5.params.toList Rows.notationRightSpec.vars false W args.toList ds gs before) (hvb : N.GW W)
    (hsz : (DataW.weightsEach Tryz.prog (Tryz.f5.params.toList ++ (OpenSpec.ofChange Rows.notationRightSpec).bare.plain.varTypes Tryz.prog) (ds ++ gs)).all (· ≤ reachBytes) = true) :
    Calls Tryz.prog 5 args W fun e W' => ∃ v, e = .returned v ∧ Rows.notationRightSpec.post enc Tryz.prog Tryz.f5 false true false false W args v W' := by
  have hval : ∀ (j : Nat) t v, Tryz.f5.params[j]? = some t → args[j]? = some v → Value.okWide Tryz.prog W .any base t v := hval0
  have hW' := hW
  obtain ⟨p, q, hA0, hV, rfl, hfz, hnd⟩ := hW
  have hA : DataW.TrodAll enc Tryz.prog W 0 (fun _ => true) true Tryz.f5.params.toList args.toList ds p := hA0
  rw [Tryz.params5] at hA hval hsz
  obtain ⟨v1, d1, rfl, rfl, h1⟩ := trodAll_one hA
  obtain ⟨rfl, rfl⟩ := trodVars_none hV
  obtain ⟨s1, rfl, rfl, rfl, hs1⟩ := open_string Tryz.underlying9 (hval 0 9 v1 rfl rfl) h1
  clear hA0 hval0
  have hb : s1.size ≤ 140737488355000 := by
    have h := sized_string hsz (j := 0) rfl rfl
    have e : s1.data.toList.length = s1.size := rfl
    have r : reachBytes ≤ 140737488355000 := by decide
    omega
  refine (N.right_any s1 hb W hvb).mono fun e W' ⟨he, bel⟩ => ?_
  subst he
  exact ⟨_, rfl, _, _, _, [], _, [], hW', trodAll_mk1 (shut_bool Tryz.underlying4 _), (trodAll_cons_mk (shut_string Tryz.underlying9 hs1) trodAll_mk0), rfl, bel.frame _, fun h => by cases h⟩

theorem notationRight_met (os : Os) : laidMet Tryz.prog Rows.notationRightRow.laid ((layTab (World.holding Tryz.prog os ⟨#[], #[], []⟩)).forCall (fun _ _ => 0) ⟨#[], #[.string ByteArray.empty], []⟩).memory :=
  laidMet_of_run' 8 (by kernel_rfl) (by kernel_rfl)
theorem notationRight_reads (os : Os) {H : Type} (enc : TypeId × Value → H) : ∃ places, DataW.whole enc Tryz.prog ((layTab (World.holding Tryz.prog os ⟨#[], #[], []⟩)).forCall (fun _ _ => 0) ⟨#[], #[.string ByteArray.empty], []⟩).memory Tryz.f5.params.toList Rows.notationRightSpec.vars false (#[.string ByteArray.empty] : Array Value).toList 8 = some ([.lit (.string [])], [], places) :=
  ⟨[], by kernel_rfl⟩

set_option maxRecDepth 100000 in
theorem notationRight_lifted (os : Os) (started : os.Started) (H : Type) (enc : TypeId × Value → H) (F : Stop.Interp) :
    ReturnsInHanded {} Tryz.checked os 5 .any ((OpenSpec.ofChange Rows.notationRightSpec).preRow enc Tryz.prog Tryz.f5 Rows.notationRightRow.domain false Rows.notationRightRow.laid) (((OpenSpec.ofChange Rows.notationRightSpec).at F).post enc Tryz.prog Tryz.f5 false true false false) := by
  obtain ⟨places, hx⟩ := notationRight_reads os enc
  refine returnsInHanded_of_row (C := Tryz.checked) (s := OpenSpec.ofChange Rows.notationRightSpec) own started (by kernel_rfl) Tryz.func5
    (witness_row_at (enc := enc) (C := Tryz.checked) false (layTab (World.holding Tryz.prog os ⟨#[], #[], []⟩)) #[.string ByteArray.empty] rfl (by kernel_rfl) (by kernel_rfl) (by kernel_rfl)
      (OpenSpec.preRow_of_cond 8 hx (by kernel_rfl) (fun k hk => by cases hk) (by kernel_rfl) (notationRight_met os))) ?_
  intro W base args ds gs before hval hW _ hcond hsz hL _ _
  exact notationRight_contract H enc W base args ds gs before hval hW (gw_of_laid hL) hsz

theorem notationRight_row : Rows.NotationRightSaid :=
  OpenClaim.holds_of_cond 5 Tryz.f5 rfl rfl rfl rfl rfl rfl rfl ⟨rfl, rfl, rfl, rfl, rfl⟩ rfl rfl rfl rfl rfl (by kernel_rfl) Tryz.func5 (by kernel_rfl)
    (of_decide_eq_true (by kernel_rfl)) (by unfold Func.isWrapper; first | (rw [if_pos (by decide +kernel)]; kernel_rfl) | (rw [if_neg (by decide +kernel)]; exact ⟨rfl, rfl⟩))
    (fun os started H enc _ F => by rw [OpenClaim.pre_eq_preRow]; exact notationRight_lifted os started H enc F)
theorem notationRight_plain (f : FuncId) (fn : Func) (hf : Tryz.pinned.checked.prog.funcNamed "harrow/harrowlaw06.NotationRight" = some f) (hfn : Tryz.pinned.checked.prog.funcs[f]? = some fn) :
    true = Tryz.pinned.checked.prog.looks [] ∧ ∀ (j : Nat) t, fn.params[j]? = some t → Tryz.pinned.checked.prog.wantsStandIn t = false := by
  obtain rfl : f = 5 := Option.some.inj ((show Tryz.prog.funcNamed "harrow/harrowlaw06.NotationRight" = some 5 by kernel_rfl).symm.trans hf) |>.symm
  obtain rfl : fn = Tryz.f5 := (Option.some.inj (Tryz.func5.symm.trans hfn)).symm
  refine ⟨by kernel_rfl, fun j t ht => ?_⟩
  rw [Tryz.params5] at ht
  have hm : t ∈ [9] := by simpa using Array.mem_of_getElem? ht
  have hall : ([9].all fun u => !Tryz.prog.wantsStandIn u) = true := by kernel_rfl
  exact (show Tryz.prog.wantsStandIn t = false by simpa using List.all_eq_true.1 hall t hm)
theorem notationRight_holds : Rows.NotationRightCardSaid :=
  Claim7.holds_tied_plain_at .later [] _ _ _ _ notationRight_row (fun _ h => by cases h) (by kernel_rfl) (fun _ h => by cases h) notationRight_row_tie rfl ⟨rfl, rfl⟩ (by kernel_rfl) rfl notationRight_plain (by kernel_rfl)
end Go.Proofs.YtkihfkcmcdiajaaGreatDoor
