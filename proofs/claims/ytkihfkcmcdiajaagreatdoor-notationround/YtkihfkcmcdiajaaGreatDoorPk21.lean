/- NotationRound holds of every text: parentheses around a pattern, with blanks, change nothing; the laid tables runes.blocks and token.signs are tied to the program's text. -/
import Derived.Test.YtkihfkcmcdiajaaGreatDoorPk20
namespace Go.Proofs.YtkihfkcmcdiajaaGreatDoor.N
open Go.RowKit
theorem szGo_none {E : PE} {z : Nat} : ∀ (rs : List Rl) (all : Nat), all ≤ 2048 → szGo E z all rs = none → (∀ r ∈ rs, (T.ck r.2.2).2 = 0) ∧ all + (rs.map fun r => r.2.2.length).sum ≤ 2048 := by
  intro rs
  induction rs with
  | nil => intro all ha _; exact ⟨fun r hr => (by cases hr), by simpa using ha⟩
  | cons r rs ih =>
    intro all ha h
    rw [szGo] at h
    by_cases h1 : (T.ck r.2.2).2 ≠ 0
    · rw [if_pos h1] at h; cases h
    · rw [if_neg h1] at h
      by_cases h2 : 2048 < all + r.2.2.length
      · rw [if_pos h2] at h; cases h
      · rw [if_neg h2] at h
        obtain ⟨h3, h4⟩ := ih _ (by omega) h
        refine ⟨fun x hx => ?_, by rw [List.map_cons, List.sum_cons]; omega⟩
        rcases List.mem_cons.1 hx with rfl | q
        · exact Decidable.not_not.1 h1
        · exact h3 x q
theorem szR_none {E : PE} {z : Nat} {rs : List Rl} (h : szR E z rs = none) : rs.length ≤ 200 ∧ (∀ r ∈ rs, (T.ck r.2.2).2 = 0) ∧ (rs.map fun r => r.2.2.length).sum ≤ 2048 := by
  unfold szR at h
  cases hr : rs[200]? with
  | some r => rw [hr] at h; cases h
  | none =>
    rw [hr] at h
    obtain ⟨h1, h2⟩ := szGo_none rs 0 (by omega) h
    exact ⟨List.getElem?_eq_none_iff.1 hr, h1, by omega⟩
theorem szGo_some {E : PE} {z : Nat} : ∀ (rs : List Rl) (all : Nat) (p : Int × Int), szGo E z all rs = some p → p.2 ≠ 0 ∧ ∃ i, p.1 = plA E z i := by
  intro rs
  induction rs with
  | nil => intro all p h; rw [szGo] at h; cases h
  | cons r rs ih =>
    intro all p h
    rw [szGo] at h
    by_cases h1 : (T.ck r.2.2).2 ≠ 0
    · rw [if_pos h1] at h; cases h; exact ⟨h1, _, rfl⟩
    · rw [if_neg h1] at h
      by_cases h2 : 2048 < all + r.2.2.length
      · rw [if_pos h2] at h; cases h; exact ⟨by show (2 : Int) ≠ 0; decide, _, rfl⟩
      · rw [if_neg h2] at h; exact ih _ _ h
theorem szR_some {E : PE} {z : Nat} {rs : List Rl} {p : Int × Int} (h : szR E z rs = some p) : p.2 ≠ 0 ∧ ∃ i, p.1 = plA E z i := by
  unfold szR at h
  cases hr : rs[200]? with
  | some r => rw [hr] at h; cases h; exact ⟨by show (2 : Int) ≠ 0; decide, _, rfl⟩
  | none => rw [hr] at h; exact szGo_some rs 0 p h
theorem alN_err {E : PE} {q : Nat × Int} (h : alN E = .inr q) : q.2 = 60 ∨ q.2 = 61 ∨ q.2 = 4 ∨ q.2 = 1 := by
  unfold alN at h
  cases hx : exN E 0 with
  | inr p => rw [hx] at h; cases h; exact (ex_err (Nat.zero_le _) hx).2
  | inl p =>
    rw [hx] at h
    dsimp only at h
    split at h
    · cases h; exact .inl rfl
    · cases h
/-- Where tokens stand. -/
theorem chn_fr {s : ByteArray} : ∀ (l : List Tk) (i : Nat), Chn s i l → ∀ t ∈ l, 0 ≤ t.fr ∧ t.fr ≤ s.size := by
  intro l
  induction l with
  | nil => intro i _ t ht; cases ht
  | cons a l ih =>
    intro i h t ht
    obtain ⟨h1, h2, e, _, _, _, h3⟩ := h
    rcases List.mem_cons.1 ht with rfl | h4
    · have := oneP_fr h2; omega
    · exact ih e h3 t h4
theorem plA_bd {s : ByteArray} {l : List Tk} (h : lexR (oneP s) s = .inl l) (i : Nat) : 0 ≤ plA (mkE l) s.size i ∧ plA (mkE l) s.size i ≤ s.size := by
  unfold plA
  split
  · next hi =>
    have hi : i < l.length := hi
    have : tkA (mkE l) i = l[i] := by unfold tkA mkE; rw [List.getElem?_eq_getElem hi]; rfl
    rw [this]
    exact chn_fr l 0 (lex_chn h).2 _ (List.getElem_mem hi)
  · omega
theorem fin_err {s : ByteArray} {l : List Tk} (hl : lexR (oneP s) s = .inl l) {r : Sum (List Rl) (Nat × Int)} (hr : ∀ q, r = .inr q → q.2 = 60 ∨ q.2 = 61 ∨ q.2 = 4 ∨ q.2 = 1) {p : Int × Int} (h : fin (mkE l) s.size r = .inr p) : p.2 ≠ 0 ∧ 0 ≤ p.1 ∧ p.1 ≤ s.size := by
  unfold fin at h
  cases r with
  | inr q =>
    cases h
    have h1 := hr q rfl
    have h2 := plA_bd hl q.1
    exact ⟨by show q.2 ≠ 0; omega, h2.1, h2.2⟩
  | inl rs =>
    dsimp only at h
    cases hs : szR (mkE l) s.size rs with
    | none => rw [hs] at h; cases h
    | some x =>
      rw [hs] at h
      cases h
      obtain ⟨h1, i, h2⟩ := szR_some hs
      have h3 := plA_bd hl i
      rw [h2]
      exact ⟨h1, h3.1, h3.2⟩
theorem paR_err {s : ByteArray} {p : Int × Int} (h : paR s = .inr p) : p.2 ≠ 0 ∧ 0 ≤ p.1 ∧ p.1 ≤ s.size := by
  unfold paR at h
  cases hl : lexR (oneP s) s with
  | inr q =>
    rw [hl] at h
    cases h
    have := lex_bad hl
    exact ⟨this.2, by show (0 : Int) ≤ (q.1 : Int); omega, by show (q.1 : Int) ≤ _; omega⟩
  | inl l => rw [hl] at h; exact fin_err hl (fun q hq => alN_err hq) h
theorem fin_ok {E : PE} {z : Nat} {r : Sum (List Rl) (Nat × Int)} {gs : List (ByteArray × List Nd)} (h : fin E z r = .inl gs) : ∃ rs, r = .inl rs ∧ szR E z rs = none ∧ gs = rs.map fun r => r.2 := by
  unfold fin at h
  cases r with
  | inr q => cases h
  | inl rs =>
    dsimp only at h
    cases hs : szR E z rs with
    | some x => rw [hs] at h; cases h
    | none => rw [hs] at h; cases h; exact ⟨rs, rfl, hs, rfl⟩
theorem alN_ok {E : PE} {rs : List Rl} (h : alN E = .inl rs) : ∃ ns, rs = [(0, ⟨#[]⟩, ns)] ∧ who E ns := by
  unfold alN at h
  cases hx : exN E 0 with
  | inr p => rw [hx] at h; cases h
  | inl p =>
    obtain ⟨a, ns⟩ := p
    rw [hx] at h
    dsimp only at h
    have := (ex_adv (Nat.zero_le _) hx).2
    split at h
    · cases h
    · cases h
      refine ⟨ns, rfl, ?_⟩
      unfold who
      rw [hx, show a = E.l.length from by omega]
/-- A pattern that Pattern tells. -/
theorem paR_ok {s : ByteArray} {gs : List (ByteArray × List Nd)} (h : paR s = .inl gs) : ∃ l ns, lexR (oneP s) s = .inl l ∧ gs = [(⟨#[]⟩, ns)] ∧ who (mkE l) ns ∧ (T.ck ns).2 = 0 ∧ ns.length ≤ 2048 := by
  unfold paR at h
  cases hl : lexR (oneP s) s with
  | inr q => rw [hl] at h; cases h
  | inl l =>
    rw [hl] at h
    obtain ⟨rs, h1, h2, h3⟩ := fin_ok h
    obtain ⟨ns, h4, h5⟩ := alN_ok h1
    subst h4
    obtain ⟨_, h6, h7⟩ := szR_none h2
    refine ⟨l, ns, rfl, h3, h5, h6 _ (List.mem_singleton.2 rfl), by simpa using h7⟩
theorem alN_who {E : PE} {ns : List Nd} (h : who E ns) : alN E = .inl [(0, ⟨#[]⟩, ns)] := by
  unfold alN
  unfold who at h
  rw [h]
  show (if E.l.length < E.l.length then _ else _) = _
  rw [if_neg (Nat.lt_irrefl _)]
theorem szR_one {E : PE} {z : Nat} {ns : List Nd} (h1 : (T.ck ns).2 = 0) (h2 : ns.length ≤ 2048) : szR E z [(0, ⟨#[]⟩, ns)] = none := by
  unfold szR
  show szGo E z 0 [(0, ⟨#[]⟩, ns)] = none
  rw [szGo, if_neg (by rw [h1]; simp), if_neg (by show ¬ 2048 < 0 + ns.length; omega), szGo]
theorem paR_who {s : ByteArray} {l : List Tk} {ns : List Nd} (hl : lexR (oneP s) s = .inl l) (h : who (mkE l) ns) (h1 : (T.ck ns).2 = 0) (h2 : ns.length ≤ 2048) : paR s = .inl [(⟨#[]⟩, ns)] := by
  unfold paR
  rw [hl]
  show fin (mkE l) s.size (alN (mkE l)) = _
  rw [alN_who h]
  unfold fin
  simp only [szR_one h1 h2]
  rfl
theorem paR_deep {s : ByteArray} {l : List Tk} {j : Nat} (hl : lexR (oneP s) s = .inl l) (h : exN (mkE l) 0 = .inr (j, 4)) : ∃ p, paR s = .inr (p, 4) := by
  refine ⟨plA (mkE l) s.size j, ?_⟩
  unfold paR
  rw [hl]
  show fin (mkE l) s.size (alN (mkE l)) = _
  unfold alN
  rw [h]
  rfl
theorem tx8_of (s : ByteArray) : tx8 s.data.toList = s := by unfold tx8; rfl
/-- Parentheses and blanks around a pattern. -/
theorem paR_round {s : ByteArray} {ns : List Nd} (hs : s.size + 6 ≤ 65536) (h : paR s = .inl [(⟨#[]⟩, ns)]) : paR (⟨#[32, 40]⟩ ++ s ++ ⟨#[10, 41, 32]⟩) = .inl [(⟨#[]⟩, ns)] ∨ ((∃ p, paR (⟨#[32, 40]⟩ ++ s ++ ⟨#[10, 41, 32]⟩) = .inr (p, 4)) ∧ 240 < s.size) := by
  obtain ⟨l, ns', hl, h1, h2, h3, h4⟩ := paR_ok h
  have e1 : ns' = ns := by
    injection h1 with h5 h6
    injection h5 with h7 h8
    exact h8.symm
  subst e1
  have hc := (lex_chn hl).2
  have hc0 := hc
  rw [← tx8_of s] at hc
  obtain ⟨L2, a, b, h5, h6⟩ := chn_round hc
  have e2 : tx8 ([32, 40] ++ (s.data.toList ++ [10, 41, 32])) = ⟨#[32, 40]⟩ ++ s ++ ⟨#[10, 41, 32]⟩ := by
    unfold tx8
    apply ByteArray.ext
    rw [ByteArray.data_append, ByteArray.data_append]
    apply Array.ext'
    simp
  rw [e2] at h5
  have hsz : (⟨#[32, 40]⟩ ++ s ++ ⟨#[10, 41, 32]⟩ : ByteArray).size = s.size + 5 := by
    rw [ByteArray.size_append, ByteArray.size_append]
    show 2 + s.size + 3 = _
    omega
  have hl2 := lex_of_chn (by rw [hsz]; omega) h5
  have hlen : l.length ≤ s.size := by
    have := chn_len s l 0 (by omega) hc0
    omega
  rcases round_who (o := sgT 16 a) (c := sgT 17 b) (rn := rnP) (tm := T.tmB) h6 rfl rfl h2 with q | ⟨j, q, q2⟩
  · exact .inl (paR_who hl2 q h3 h4)
  · exact .inr ⟨paR_deep hl2 q, by omega⟩
end Go.Proofs.YtkihfkcmcdiajaaGreatDoor.N

namespace Go.Proofs.YtkihfkcmcdiajaaGreatDoor.N
open Go.RowKit
def dot : ByteArray := ⟨#[46]⟩
theorem lex_dot : lexR (oneP dot) dot = .inl [⟨18, 0, 0, 1, ⟨#[]⟩, 0, 0, 0, 0⟩] := rfl
theorem ex_dot : exN (mkE [⟨18, 0, 0, 1, ⟨#[]⟩, 0, 0, 0, 0⟩]) 0 = .inl (1, [nd0 3]) := rfl
theorem ck_any : (T.ck [nd0 3]).2 = 0 := by
  have e : (⟨#[]⟩ : ByteArray) = ByteArray.empty := rfl
  simp [nd0, T.ck, T.ckGo, T.er, T.alE, T.fdF, T.txF, T.nuF, T.seF, T.ar, T.run, T.pt, T.mk, T.arN, T.opAt, e]
theorem pa_dot : paR dot = .inl [(⟨#[]⟩, [nd0 3])] := paR_who lex_dot ex_dot ck_any (by simp)
theorem fx_eql (a b c d : Int) (W : World) : (binOp .eql 27 (.agg #[.int .i64 a, .int .i64 b]) (.agg #[.int .i64 c, .int .i64 d])).run Tryz.prog W = .ok (.bool (a == c && b == d)) W := by
  have h := eq26 a b c d W
  have e : Op.maxDepth = 10000 := rfl
  simp [binOp, Op.equal, e, h]
set_option maxRecDepth 100000 in
set_option maxHeartbeats 8000000 in
theorem lives_any (w : World) (hg : GW w) : Calls Tryz.prog 11 #[] w fun e w' => e = .returned (.bool true) ∧ Below w.heap.size w w' := by
  have HP : Hid (∀ _ : Unit, Calls Tryz.prog 13 #[.string ⟨#[46]⟩] w fun e w' => (∃ v, e = .returned (.tuple #[v, .agg #[.int .i64 0, .int .i64 0]]) ∧ w'.ownsRow w.heap.size 51 7 v 1 (T.ndc [nd0 3])) ∧ Below w.heap.size w w') := fun _ => by
    refine (patt_any dot w hg).mono ?_
    rintro e w' ⟨h1, h2⟩
    rw [pa_dot] at h1
    obtain ⟨v, ns, h3, h4, h5⟩ := h1
    have e1 : [nd0 3] = ns := by
      injection h3 with h6 _
      injection h6 with _ h8
    subst e1
    exact ⟨⟨v, h4, h5⟩, h2⟩
  have hfe := fx_eql
  clear hg
  go_enter Tryz.func11, Tryz.ntmps11
  go_wp2_with fail
  refine (HP.out ()).mono ?_
  rintro e w1 ⟨⟨v, rfl, ho⟩, hb⟩
  obtain ⟨g, c, rfl, _, hlt⟩ := ho.form (by decide)
  have hc : w1.cell? ⟨g, 0, none⟩ = some (.int .i64 3) := by
    have := ho.cells (g := g) rfl 0 (.int .i64 3) rfl
    rwa [Addr.add_lit, Nat.zero_add] at this
  have hc2 : ∀ o, (w1.alloc o).cell? ⟨g, 0, none⟩ = some (.int .i64 3) := fun o => ((below_box w1 o).cell (p := ⟨g, 0, none⟩) hlt).trans hc
  have HB := (show Hid (Below w.heap.size w w1) from hb)
  have hn : ¬ g = w1.heap.size := by omega
  clear hb ho HP
  go_wp2_with fail
  go_ret
  exact ⟨rfl, HB.out.alloc HB.out.size _⟩
/-- Two equal rows of nodes. -/
theorem same_any {w : World} {v1 v2 : Value} {B1 B2 : Nat} {L M : List Nd} (hl : L.length ≤ 2048) (hm : M.length ≤ 2048) (h1 : w.ownsRow B1 51 7 v1 L.length (T.ndc L)) (h2 : w.ownsRow B2 51 7 v2 M.length (T.ndc M)) : Calls Tryz.prog 15 #[v1, v2] w fun e w' => e = .returned (.bool (T.patB L M)) ∧ Below w.heap.size w w' := by
  obtain ⟨A1, c1, rfl, r1⟩ := T.own_rd h1 rfl
  obtain ⟨A2, c2, rfl, r2⟩ := T.own_rd h2 rfl
  exact T.samePattern_any A1 A2 c1 c2 L M (by omega) (by omega) w r1 r2
end Go.Proofs.YtkihfkcmcdiajaaGreatDoor.N

namespace Go.Proofs.YtkihfkcmcdiajaaGreatDoor.N
open Go.RowKit
set_option maxRecDepth 100000 in
set_option maxHeartbeats 8000000 in
theorem round_no (s : ByteArray) (w : World) (hg : GW w) (p : Int × Int) (hp : paR s = .inr p) : Calls Tryz.prog 6 #[.string s] w fun e w' => e = .returned (.bool true) ∧ Below w.heap.size w w' := by
  have HP : Hid (∀ _ : Unit, Calls Tryz.prog 13 #[.string s] w fun e w' => e = .returned (.tuple #[.slice none 0 0, .agg #[.int .i64 p.1, .int .i64 p.2]]) ∧ Below w.heap.size w w') := fun _ => by
    have := patt_any s w hg
    rw [hp] at this
    exact this
  have HL : Hid (∀ W, GW W → Calls Tryz.prog 11 #[] W fun e w' => e = .returned (.bool true) ∧ Below W.heap.size W w') := fun W h => lives_any W h
  have HG := (show Hid (GW w) from hg)
  have t1 : (p.2 != 0) = true := by simpa using (paR_err hp).1
  clear hg hp
  go_enter Tryz.func6, Tryz.ntmps6
  go_wp2_with fail
  refine (HP.out ()).mono ?_
  rintro e w1 ⟨rfl, hb⟩
  have HB := (show Hid (Below w.heap.size w w1) from hb)
  clear hb HP
  go_wp2_with fail
  have hb2 : ∀ o, Below w.heap.size w (w1.alloc o) := fun o => HB.out.alloc HB.out.size o
  refine (HL.out _ (HG.out.later (hb2 _))).mono ?_
  rintro e w2 ⟨rfl, hb⟩
  have HB2 := (show Hid (Below w.heap.size w w2) from (hb2 _).trans (hb.mono (hb2 _).size))
  clear hb hb2 HL
  go_wp2_with fail
  go_ret
  exact ⟨rfl, HB2.out⟩
set_option maxRecDepth 100000 in
set_option maxHeartbeats 8000000 in
theorem round_long (s : ByteArray) (w : World) (hg : GW w) (ns : List Nd) (hp : paR s = .inl [(⟨#[]⟩, ns)]) (hs : ¬ s.size + 6 ≤ 65536) (hs2 : s.size ≤ 140737488355000) : Calls Tryz.prog 6 #[.string s] w fun e w' => e = .returned (.bool true) ∧ Below w.heap.size w w' := by
  have HP : Hid (∀ W, GW W → Calls Tryz.prog 13 #[.string s] W fun e w' => (∃ v, e = .returned (.tuple #[v, .agg #[.int .i64 0, .int .i64 0]]) ∧ w'.ownsRow W.heap.size 51 7 v ns.length (T.ndc ns)) ∧ Below W.heap.size W w') := fun W hW => by
    refine (patt_any _ W hW).mono ?_
    rintro e w' ⟨h1, h2⟩
    rw [hp] at h1
    obtain ⟨v, ns', h3, h4, h5⟩ := h1
    have e1 : ns = ns' := by
      injection h3 with h6 _
      injection h6 with _ h8
    subst e1
    exact ⟨⟨v, h4, h5⟩, h2⟩
  have HL : Hid (∀ W, GW W → Calls Tryz.prog 11 #[] W fun e w' => e = .returned (.bool true) ∧ Below W.heap.size W w') := fun W h => lives_any W h
  have HG := (show Hid (GW w) from hg)
  have t1 : (65536 : Int) < (s.size : Int) + 6 := by omega
  clear hg hp
  go_enter Tryz.func6, Tryz.ntmps6
  go_wp2_with fail
  refine (HP.out _ HG.out).mono ?_
  rintro e w1 ⟨⟨v, rfl, ho⟩, hb⟩
  have HB := (show Hid (Below w.heap.size w w1) from hb)
  clear hb HP ho
  go_wp2_with fail
  have hb2 : ∀ o, Below w.heap.size w (w1.alloc o) := fun o => HB.out.alloc HB.out.size o
  refine (HL.out _ (HG.out.later (hb2 _))).mono ?_
  rintro e w2 ⟨rfl, hb⟩
  have HB2 := (show Hid (Below w.heap.size w w2) from (hb2 _).trans (hb.mono (hb2 _).size))
  clear hb hb2 HL
  go_wp2_with fail
  go_ret
  exact ⟨rfl, HB2.out⟩
set_option maxRecDepth 100000 in
set_option maxHeartbeats 8000000 in
theorem round_same (s : ByteArray) (w : World) (hg : GW w) (ns : List Nd) (hp : paR s = .inl [(⟨#[]⟩, ns)]) (hn : ns.length ≤ 2048) (hs : s.size + 6 ≤ 65536) (hq : paR (⟨#[32, 40]⟩ ++ s ++ ⟨#[10, 41, 32]⟩) = .inl [(⟨#[]⟩, ns)]) : Calls Tryz.prog 6 #[.string s] w fun e w' => e = .returned (.bool true) ∧ Below w.heap.size w w' := by
  have HP : Hid (∀ W, GW W → Calls Tryz.prog 13 #[.string s] W fun e w' => (∃ v, e = .returned (.tuple #[v, .agg #[.int .i64 0, .int .i64 0]]) ∧ w'.ownsRow W.heap.size 51 7 v ns.length (T.ndc ns)) ∧ Below W.heap.size W w') := fun W hW => by
    refine (patt_any _ W hW).mono ?_
    rintro e w' ⟨h1, h2⟩
    rw [hp] at h1
    obtain ⟨v, ns', h3, h4, h5⟩ := h1
    have e1 : ns = ns' := by
      injection h3 with h6 _
      injection h6 with _ h8
    subst e1
    exact ⟨⟨v, h4, h5⟩, h2⟩
  have HL : Hid (∀ W, GW W → Calls Tryz.prog 11 #[] W fun e w' => e = .returned (.bool true) ∧ Below W.heap.size W w') := fun W h => lives_any W h
  have HG := (show Hid (GW w) from hg)
  obtain ⟨m, hm⟩ : ∃ m : Int, m = (s.size : Int) + 6 := ⟨_, rfl⟩
  have u1 : IntKind.i64.wrap ((s.size : Int) + 6) = m := by rw [IntKind.wrap_i64]; omega
  have t1 : ¬ (65536 : Int) < m := by omega
  have hfe := fx_eql
  have k1 : ¬ 9223372036854775807 < 2 + s.size := by omega
  have k2 : ¬ 9223372036854775807 < 2 + s.size + 3 := by omega
  have HQ : Hid (∀ W, GW W → Calls Tryz.prog 13 #[.string (⟨#[32, 40]⟩ ++ s ++ ⟨#[10, 41, 32]⟩)] W fun e w' => (∃ v, e = .returned (.tuple #[v, .agg #[.int .i64 0, .int .i64 0]]) ∧ w'.ownsRow W.heap.size 51 7 v ns.length (T.ndc ns)) ∧ Below W.heap.size W w') := fun W hW => by
    refine (patt_any _ W hW).mono ?_
    rintro e w' ⟨h1, h2⟩
    rw [hq] at h1
    obtain ⟨v, ns', h3, h4, h5⟩ := h1
    have e1 : ns = ns' := by
      injection h3 with h6 _
      injection h6 with _ h8
    subst e1
    exact ⟨⟨v, h4, h5⟩, h2⟩
  have HS : Hid (∀ W v1 v2 B1 B2, W.ownsRow B1 51 7 v1 ns.length (T.ndc ns) → W.ownsRow B2 51 7 v2 ns.length (T.ndc ns) → Calls Tryz.prog 15 #[v1, v2] W fun e w' => e = .returned (.bool true) ∧ Below W.heap.size W w') := fun W v1 v2 B1 B2 h1 h2 => by
    have := same_any hn hn h1 h2
    rw [T.patB_refl] at this
    exact this
  clear hg hp hq hn hs hm
  go_enter Tryz.func6, Tryz.ntmps6
  go_wp2_with fail
  refine (HP.out _ HG.out).mono ?_
  rintro e w1 ⟨⟨v, rfl, ho⟩, hb⟩
  have HB := (show Hid (Below w.heap.size w (w1.alloc fxZ) ∧ (w1.alloc fxZ).ownsRow w.heap.size 51 7 v ns.length (T.ndc ns)) from ⟨hb.alloc hb.size _, ho.alloc _⟩)
  clear hb HP ho
  go_wp2_with fail
  generalize w1.alloc fxZ = w2 at *
  have HG2 := (show Hid (GW w2) from HG.out.later HB.out.1)
  refine (HQ.out _ HG2.out).mono ?_
  rintro e w3 ⟨⟨v3, rfl, ho3⟩, hb⟩
  have HB3 := (show Hid (Below w.heap.size w (w3.alloc fxZ) ∧ (w3.alloc fxZ).ownsRow w.heap.size 51 7 v ns.length (T.ndc ns) ∧ (w3.alloc fxZ).ownsRow w2.heap.size 51 7 v3 ns.length (T.ndc ns) ∧ FX (w3.alloc fxZ) w3.heap.size 0 0) from ⟨(HB.out.1.trans (hb.mono HB.out.1.size)).alloc (Nat.le_trans HB.out.1.size hb.size) _, (ownB HB.out.2 hb).alloc _, ho3.alloc _, ⟨heap_alloc_new w3 _⟩⟩)
  clear hb HQ ho3 HB
  go_wp2_with fail
  generalize w3.alloc fxZ = w4 at *
  refine (HL.out _ (HG.out.later HB3.out.1)).mono ?_
  rintro e w5 ⟨rfl, hb⟩
  have HB5 := (show Hid (Below w.heap.size w w5 ∧ w5.ownsRow w.heap.size 51 7 v ns.length (T.ndc ns) ∧ w5.ownsRow w2.heap.size 51 7 v3 ns.length (T.ndc ns) ∧ FX w5 w3.heap.size 0 0) from ⟨HB3.out.1.trans (hb.mono HB3.out.1.size), ownB HB3.out.2.1 hb, ownB HB3.out.2.2.1 hb, HB3.out.2.2.2.below hb⟩)
  clear hb HB3 HL
  have c0 := HB5.out.2.2.2.c0
  have c1 := HB5.out.2.2.2.c1
  go_wp2_with fail
  refine (HS.out _ _ _ _ _ HB5.out.2.1 HB5.out.2.2.1).mono ?_
  rintro e w6 ⟨rfl, hb⟩
  have HB6 := (show Hid (Below w.heap.size w w6) from HB5.out.1.trans (hb.mono HB5.out.1.size))
  clear hb HB5 HS c0 c1
  go_wp2_with fail
  go_ret
  exact ⟨rfl, HB6.out⟩
set_option maxRecDepth 100000 in
set_option maxHeartbeats 8000000 in
theorem round_deep (s : ByteArray) (w : World) (hg : GW w) (ns : List Nd) (hp : paR s = .inl [(⟨#[]⟩, ns)]) (hs : s.size + 6 ≤ 65536) (p : Int) (hq : paR (⟨#[32, 40]⟩ ++ s ++ ⟨#[10, 41, 32]⟩) = .inr (p, 4)) (h240 : 240 < s.size) : Calls Tryz.prog 6 #[.string s] w fun e w' => e = .returned (.bool true) ∧ Below w.heap.size w w' := by
  have HP : Hid (∀ W, GW W → Calls Tryz.prog 13 #[.string s] W fun e w' => (∃ v, e = .returned (.tuple #[v, .agg #[.int .i64 0, .int .i64 0]]) ∧ w'.ownsRow W.heap.size 51 7 v ns.length (T.ndc ns)) ∧ Below W.heap.size W w') := fun W hW => by
    refine (patt_any _ W hW).mono ?_
    rintro e w' ⟨h1, h2⟩
    rw [hp] at h1
    obtain ⟨v, ns', h3, h4, h5⟩ := h1
    have e1 : ns = ns' := by
      injection h3 with h6 _
      injection h6 with _ h8
    subst e1
    exact ⟨⟨v, h4, h5⟩, h2⟩
  have HL : Hid (∀ W, GW W → Calls Tryz.prog 11 #[] W fun e w' => e = .returned (.bool true) ∧ Below W.heap.size W w') := fun W h => lives_any W h
  have HG := (show Hid (GW w) from hg)
  obtain ⟨m, hm⟩ : ∃ m : Int, m = (s.size : Int) + 6 := ⟨_, rfl⟩
  have u1 : IntKind.i64.wrap ((s.size : Int) + 6) = m := by rw [IntKind.wrap_i64]; omega
  have t1 : ¬ (65536 : Int) < m := by omega
  have hfe := fx_eql
  have k1 : ¬ 9223372036854775807 < 2 + s.size := by omega
  have k2 : ¬ 9223372036854775807 < 2 + s.size + 3 := by omega
  have HQ : Hid (∀ W, GW W → Calls Tryz.prog 13 #[.string (⟨#[32, 40]⟩ ++ s ++ ⟨#[10, 41, 32]⟩)] W fun e w' => e = .returned (.tuple #[.slice none 0 0, .agg #[.int .i64 p, .int .i64 4]]) ∧ Below W.heap.size W w') := fun W hW => by
    have := patt_any (⟨#[32, 40]⟩ ++ s ++ ⟨#[10, 41, 32]⟩) W hW
    rw [hq] at this
    exact this
  have t2 : (240 : Int) < (s.size : Int) := by omega
  clear hg hp hq hs h240 hm
  go_enter Tryz.func6, Tryz.ntmps6
  go_wp2_with fail
  refine (HP.out _ HG.out).mono ?_
  rintro e w1 ⟨⟨v, rfl, ho⟩, hb⟩
  have HB := (show Hid (Below w.heap.size w (w1.alloc fxZ) ∧ (w1.alloc fxZ).ownsRow w.heap.size 51 7 v ns.length (T.ndc ns)) from ⟨hb.alloc hb.size _, ho.alloc _⟩)
  clear hb HP ho
  go_wp2_with fail
  generalize w1.alloc fxZ = w2 at *
  have HG2 := (show Hid (GW w2) from HG.out.later HB.out.1)
  refine (HQ.out _ HG2.out).mono ?_
  rintro e w3 ⟨rfl, hb⟩
  have HB3 := (show Hid (Below w.heap.size w (w3.alloc (.cells #[.int .i64 p, .int .i64 4] 27))) from (HB.out.1.trans (hb.mono HB.out.1.size)).alloc (Nat.le_trans HB.out.1.size hb.size) _)
  clear hb HQ HB
  go_wp2_with fail
  generalize w3.alloc (.cells #[.int .i64 p, .int .i64 4] 27) = w4 at *
  refine (HL.out _ (HG.out.later HB3.out)).mono ?_
  rintro e w5 ⟨rfl, hb⟩
  have HB5 := (show Hid (Below w.heap.size w w5) from HB3.out.trans (hb.mono HB3.out.size))
  clear hb HB3 HL
  go_wp2_with fail
  go_ret
  exact ⟨rfl, HB5.out⟩
/-- NotationRound, at any text. -/
theorem round_any (s : ByteArray) (hs2 : s.size ≤ 140737488355000) (w : World) (hg : GW w) : Calls Tryz.prog 6 #[.string s] w fun e w' => e = .returned (.bool true) ∧ Below w.heap.size w w' := by
  cases hp : paR s with
  | inr p => exact round_no s w hg p hp
  | inl gs =>
    obtain ⟨l, ns, _, rfl, _, _, hn⟩ := paR_ok hp
    by_cases hs : s.size + 6 ≤ 65536
    · rcases paR_round hs hp with q | ⟨⟨p, q⟩, h⟩
      · exact round_same s w hg ns hp hn hs q
      · exact round_deep s w hg ns hp hs p q h
    · exact round_long s w hg ns hp hs hs2
end Go.Proofs.YtkihfkcmcdiajaaGreatDoor.N

namespace Go.Proofs.YtkihfkcmcdiajaaGreatDoor
open Go.ChangeShapes Go.WideShapes Go.ChangeAt Go.RowKit
open Go.ChangeMaps (open_string shut_string)
set_option maxRecDepth 100000 in
theorem notationRound_contract (H : Type) (enc : TypeId × Value → H) (W : World) (base : Nat) (args : Array Value) (ds gs : List (DataW H)) (before : List MemPlace)
    (hval0 : ∀ (j : Nat) t v, Tryz.f6.params[j]? = some t → args[j]? = some v → Value.okWide Tryz.prog W .any base t v)
    (hW : DataW.Whole enc Tryz.prog Tryz.f6.params.toList Rows.notationRoundSpec.vars false W args.toList ds gs before) (hvb : N.GW W)
    (hsz : (DataW.weightsEach Tryz.prog (Tryz.f6.params.toList ++ (OpenSpec.ofChange Rows.notationRoundSpec).bare.plain.varTypes Tryz.prog) (ds ++ gs)).all (· ≤ reachBytes) = true) :
    Calls Tryz.prog 6 args W fun e W' => ∃ v, e = .returned v ∧ Rows.notationRoundSpec.post enc Tryz.prog Tryz.f6 false true false false W args v W' := by
  have hval : ∀ (j : Nat) t v, Tryz.f6.params[j]? = some t → args[j]? = some v → Value.okWide Tryz.prog W .any base t v := hval0
  have hW' := hW
  obtain ⟨p, q, hA0, hV, rfl, hfz, hnd⟩ := hW
  have hA : DataW.TrodAll enc Tryz.prog W 0 (fun _ => true) true Tryz.f6.params.toList args.toList ds p := hA0
  rw [Tryz.params6] at hA hval hsz
  obtain ⟨v1, d1, rfl, rfl, h1⟩ := trodAll_one hA
  obtain ⟨rfl, rfl⟩ := trodVars_none hV
  obtain ⟨s1, rfl, rfl, rfl, hs1⟩ := open_string Tryz.underlying9 (hval 0 9 v1 rfl rfl) h1
  clear hA0 hval0
  have hb : s1.size ≤ 140737488355000 := by
    have h := sized_string hsz (j := 0) rfl rfl
    have e : s1.data.toList.length = s1.size := rfl
    have r : reachBytes ≤ 140737488355000 := by decide
    omega
  refine (N.round_any s1 hb W hvb).mono fun e W' ⟨he, bel⟩ => ?_
  subst he
  exact ⟨_, rfl, _, _, _, [], _, [], hW', trodAll_mk1 (shut_bool Tryz.underlying4 _), (trodAll_cons_mk (shut_string Tryz.underlying9 hs1) trodAll_mk0), rfl, bel.frame _, fun h => by cases h⟩

theorem notationRound_met (os : Os) : laidMet Tryz.prog Rows.notationRoundRow.laid ((layTab (World.holding Tryz.prog os ⟨#[], #[], []⟩)).forCall (fun _ _ => 0) ⟨#[], #[.string ByteArray.empty], []⟩).memory :=
  laidMet_of_run' 8 (by kernel_rfl) (by kernel_rfl)
theorem notationRound_reads (os : Os) {H : Type} (enc : TypeId × Value → H) : ∃ places, DataW.whole enc Tryz.prog ((layTab (World.holding Tryz.prog os ⟨#[], #[], []⟩)).forCall (fun _ _ => 0) ⟨#[], #[.string ByteArray.empty], []⟩).memory Tryz.f6.params.toList Rows.notationRoundSpec.vars false (#[.string ByteArray.empty] : Array Value).toList 8 = some ([.lit (.string [])], [], places) :=
  ⟨[], by kernel_rfl⟩

set_option maxRecDepth 100000 in
theorem notationRound_lifted (os : Os) (started : os.Started) (H : Type) (enc : TypeId × Value → H) (F : Stop.Interp) :
    ReturnsInHanded {} Tryz.checked os 6 .any ((OpenSpec.ofChange Rows.notationRoundSpec).preRow enc Tryz.prog Tryz.f6 Rows.notationRoundRow.domain false Rows.notationRoundRow.laid) (((OpenSpec.ofChange Rows.notationRoundSpec).at F).post enc Tryz.prog Tryz.f6 false true false false) := by
  obtain ⟨places, hx⟩ := notationRound_reads os enc
  refine returnsInHanded_of_row (C := Tryz.checked) (s := OpenSpec.ofChange Rows.notationRoundSpec) own started (by kernel_rfl) Tryz.func6
    (witness_row_at (enc := enc) (C := Tryz.checked) false (layTab (World.holding Tryz.prog os ⟨#[], #[], []⟩)) #[.string ByteArray.empty] rfl (by kernel_rfl) (by kernel_rfl) (by kernel_rfl)
      (OpenSpec.preRow_of_cond 8 hx (by kernel_rfl) (fun k hk => by cases hk) (by kernel_rfl) (notationRound_met os))) ?_
  intro W base args ds gs before hval hW _ hcond hsz hL _ _
  exact notationRound_contract H enc W base args ds gs before hval hW (gw_of_laid hL) hsz

theorem notationRound_row : Rows.NotationRoundSaid :=
  OpenClaim.holds_of_cond 6 Tryz.f6 rfl rfl rfl rfl rfl rfl rfl ⟨rfl, rfl, rfl, rfl, rfl⟩ rfl rfl rfl rfl rfl (by kernel_rfl) Tryz.func6 (by kernel_rfl)
    (of_decide_eq_true (by kernel_rfl)) (by unfold Func.isWrapper; first | (rw [if_pos (by decide +kernel)]; kernel_rfl) | (rw [if_neg (by decide +kernel)]; exact ⟨rfl, rfl⟩))
    (fun os started H enc _ F => by rw [OpenClaim.pre_eq_preRow]; exact notationRound_lifted os started H enc F)
theorem notationRound_plain (f : FuncId) (fn : Func) (hf : Tryz.pinned.checked.prog.funcNamed "harrow/harrowlaw06.NotationRound" = some f) (hfn : Tryz.pinned.checked.prog.funcs[f]? = some fn) :
    true = Tryz.pinned.checked.prog.looks [] ∧ ∀ (j : Nat) t, fn.params[j]? = some t → Tryz.pinned.checked.prog.wantsStandIn t = false := by
  obtain rfl : f = 6 := Option.some.inj ((show Tryz.prog.funcNamed "harrow/harrowlaw06.NotationRound" = some 6 by kernel_rfl).symm.trans hf) |>.symm
  obtain rfl : fn = Tryz.f6 := (Option.some.inj (Tryz.func6.symm.trans hfn)).symm
  refine ⟨by kernel_rfl, fun j t ht => ?_⟩
  rw [Tryz.params6] at ht
  have hm : t ∈ [9] := by simpa using Array.mem_of_getElem? ht
  have hall : ([9].all fun u => !Tryz.prog.wantsStandIn u) = true := by kernel_rfl
  exact (show Tryz.prog.wantsStandIn t = false by simpa using List.all_eq_true.1 hall t hm)
theorem notationRound_holds : Rows.NotationRoundCardSaid :=
  Claim7.holds_tied_plain_at .later [] _ _ _ _ notationRound_row (fun _ h => by cases h) (by kernel_rfl) (fun _ h => by cases h) notationRound_row_tie rfl ⟨rfl, rfl⟩ (by kernel_rfl) rfl notationRound_plain (by kernel_rfl)
end Go.Proofs.YtkihfkcmcdiajaaGreatDoor
