/- DERIVED. Plain mathematics and walks, laid together (16). -/
import Derived.Test.YtnpifgcgjgddoaaGreatDoorPw15
set_option maxRecDepth 100000
set_option maxHeartbeats 8000000
namespace Go.Proofs.YtnpifgcgjgddoaaGreatDoor.N
open Go.RowKit
theorem zlq {E : PE} {z : Nat} : ∀ (rs : List Rl) (all : Nat), all <= 2048 -> zhG E z all rs = none -> (∀ r ∈ rs, (T.ck r.2.2).2 = 0) /\ all + (rs.map fun r => r.2.2.length).sum <= 2048 := by
 intro rs
 induction rs with
 | nil => intro all ha _; exact ⟨fun r hr => (by cases hr), by simpa using ha⟩
 | cons r rs ih =>
  intro all ha h
  rw [zhG] at h
  by_cases h1 : (T.ck r.2.2).2 ≠ 0
  ·rw [if_pos h1] at h; cases h
  ·rw [if_neg h1] at h
   by_cases h2 : 2048 < all + r.2.2.length
   ·rw [if_pos h2] at h; cases h
   ·rw [if_neg h2] at h
    obtain ⟨h3, h4⟩ := ih _ (by omega) h
    refine ⟨fun x hx => ?_, by rw [List.map_cons, List.sum_cons]; omega⟩
    rcases List.mem_cons.1 hx with rfl | q
    ·exact Decidable.not_not.1 h1
    ·exact h3 x q
theorem znr {E : PE} {z : Nat} {rs : List Rl} (h : szR E z rs = none) : rs.length <= 200 /\ (∀ r ∈ rs, (T.ck r.2.2).2 = 0) /\ (rs.map fun r => r.2.2.length).sum <= 2048 := by
 unfold szR at h
 cases hr : rs[200]? with
 | some r => rw [hr] at h; cases h
 | none =>
  rw [hr] at h
  obtain ⟨h1, h2⟩ := zlq rs 0 (by omega) h
  exact ⟨List.getElem?_eq_none_iff.1 hr, h1, by omega⟩
theorem zlr {E : PE} {z : Nat} : ∀ (rs : List Rl) (all : Nat) (p : Int × Int), zhG E z all rs = some p -> p.2 ≠ 0 /\ ∃ i, p.1 = plA E z i := by
 intro rs
 induction rs with
 | nil => intro all p h; rw [zhG] at h; cases h
 | cons r rs ih =>
  intro all p h
  rw [zhG] at h
  by_cases h1 : (T.ck r.2.2).2 ≠ 0
  ·rw [if_pos h1] at h; cases h; exact ⟨h1, _, rfl⟩
  ·rw [if_neg h1] at h
   by_cases h2 : 2048 < all + r.2.2.length
   ·rw [if_pos h2] at h; cases h; exact ⟨by show (2 : Int) ≠ 0; decide, _, rfl⟩
   ·rw [if_neg h2] at h; exact ih _ _ h
theorem zns {E : PE} {z : Nat} {rs : List Rl} {p : Int × Int} (h : szR E z rs = some p) : p.2 ≠ 0 /\ ∃ i, p.1 = plA E z i := by
 unfold szR at h
 cases hr : rs[200]? with
 | some r => rw [hr] at h; cases h; exact ⟨by show (2 : Int) ≠ 0; decide, _, rfl⟩
 | none => rw [hr] at h; exact zlr rs 0 p h
theorem zqG {E : PE} {q : Nat × Int} (h : alN E = .inr q) : q.2 = 60 ∨ q.2 = 61 ∨ q.2 = 4 ∨ q.2 = 1 := by
 unfold alN at h
 cases hx : exN E 0 with
 | inr p => rw [hx] at h; cases h; exact (ex_err (Nat.zero_le _) hx).2
 | inl p =>
  rw [hx] at h
  dsimp only at h
  split at h
  ·cases h; exact .inl rfl
  ·cases h
theorem chn_fr {s : ByteArray} : ∀ (l : List Tk) (i : Nat), Chn s i l -> ∀ t ∈ l, 0 <= t.fr /\ t.fr <= s.size := by
 intro l
 induction l with
 | nil => intro i _ t ht; cases ht
 | cons a l ih =>
  intro i h t ht
  obtain ⟨h1, h2, e, _, _, _, h3⟩ := h
  rcases List.mem_cons.1 ht with rfl | h4
  ·have := zqn h2; omega
  ·exact ih e h3 t h4
theorem zox {s : ByteArray} {l : List Tk} (h : zcA (zaA s) s = .inl l) (i : Nat) : 0 <= plA (mkE l) s.size i /\ plA (mkE l) s.size i <= s.size := by
 unfold plA
 split
 ·next hi =>
  have hi : i < l.length := hi
  have : tkA (mkE l) i = l[i] := by unfold tkA mkE; rw [List.getElem?_eq_getElem hi]; rfl
  rw [this]
  exact chn_fr l 0 (zhQ h).2 _ (List.getElem_mem hi)
 ·omega
theorem zqH {s : ByteArray} {l : List Tk} (hl : zcA (zaA s) s = .inl l) {r : Sum (List Rl) (Nat × Int)} (hr : ∀ q, r = .inr q -> q.2 = 60 ∨ q.2 = 61 ∨ q.2 = 4 ∨ q.2 = 1) {p : Int × Int} (h : fin (mkE l) s.size r = .inr p) : p.2 ≠ 0 /\ 0 <= p.1 /\ p.1 <= s.size := by
 unfold fin at h
 cases r with
 | inr q =>
  cases h
  have h1 := hr q rfl
  have h2 := zox hl q.1
  exact ⟨by show q.2 ≠ 0; omega, h2.1, h2.2⟩
 | inl rs =>
  dsimp only at h
  cases hs : szR (mkE l) s.size rs with
  | none => rw [hs] at h; cases h
  | some x =>
   rw [hs] at h
   cases h
   obtain ⟨h1, i, h2⟩ := zns hs
   have h3 := zox hl i
   rw [h2]
   exact ⟨h1, h3.1, h3.2⟩
theorem zqI {s : ByteArray} {p : Int × Int} (h : paR s = .inr p) : p.2 ≠ 0 /\ 0 <= p.1 /\ p.1 <= s.size := by
 unfold paR at h
 cases hl : zcA (zaA s) s with
 | inr q =>
  rw [hl] at h
  cases h
  have := zlk hl
  exact ⟨this.2, by show (0 : Int) <= (q.1 : Int); omega, by show (q.1 : Int) <= _; omega⟩
 | inl l => rw [hl] at h; exact zqH hl (fun q hq => zqG hq) h
theorem fin_ok {E : PE} {z : Nat} {r : Sum (List Rl) (Nat × Int)} {gs : List (ByteArray × List Nd)} (h : fin E z r = .inl gs) : ∃ rs, r = .inl rs /\ szR E z rs = none /\ gs = rs.map fun r => r.2 := by
 unfold fin at h
 cases r with
 | inr q => cases h
 | inl rs =>
  dsimp only at h
  cases hs : szR E z rs with
  | some x => rw [hs] at h; cases h
  | none => rw [hs] at h; cases h; exact ⟨rs, rfl, hs, rfl⟩
theorem alN_ok {E : PE} {rs : List Rl} (h : alN E = .inl rs) : ∃ ns, rs = [(0, ⟨#[]⟩, ns)] /\ who E ns := by
 unfold alN at h
 cases hx : exN E 0 with
 | inr p => rw [hx] at h; cases h
 | inl p =>
  obtain ⟨a, ns⟩ := p
  rw [hx] at h
  dsimp only at h
  have := (zgp (Nat.zero_le _) hx).2
  split at h
  ·cases h
  ·cases h
   refine ⟨ns, rfl, ?_⟩
   unfold who
   rw [hx, show a = E.l.length from by omega]
theorem zoy {s : ByteArray} {gs : List (ByteArray × List Nd)} (h : paR s = .inl gs) : ∃ l ns, zcA (zaA s) s = .inl l /\ gs = [(⟨#[]⟩, ns)] /\ who (mkE l) ns /\ (T.ck ns).2 = 0 /\ ns.length <= 2048 := by
 unfold paR at h
 cases hl : zcA (zaA s) s with
 | inr q => rw [hl] at h; cases h
 | inl l =>
  rw [hl] at h
  obtain ⟨rs, h1, h2, h3⟩ := fin_ok h
  obtain ⟨ns, h4, h5⟩ := alN_ok h1
  subst h4
  obtain ⟨_, h6, h7⟩ := znr h2
  refine ⟨l, ns, rfl, h3, h5, h6 _ (List.mem_singleton.2 rfl), by simpa using h7⟩
theorem zoz {L : List Nd} (h : (T.ck L).2 = 0) : L.length <= 2048 := by
 unfold T.ck at h
 by_cases q : 2048 < L.length
 ·rw [if_pos q] at h; exact absurd h (by decide)
 ·omega
theorem zdP {n : Nd} (h : T.alE n = 0) : (T.arN n.op = 0 /\ (n.op = 1 ∨ n.op = 2 ∨ n.op = 3 ∨ n.op = 4 ∨ n.op = 5 ∨ n.op = 6 ∨ n.op = 17)) ∨ (T.arN n.op = 2 /\ (n.op = 7 ∨ n.op = 8)) ∨ (T.arN n.op = 1 /\ (n.op = 9 ∨ n.op = 10 ∨ n.op = 11 ∨ n.op = 12 ∨ n.op = 13 ∨ n.op = 14 ∨ n.op = 15 ∨ n.op = 16 ∨ n.op = 18 ∨ n.op = 19 ∨ n.op = 20 ∨ n.op = 21 ∨ n.op = 22 ∨ n.op = 23)) := by
 have hr := op_rng h
 unfold T.arN T.ar
 rw [if_neg (by omega)]
 by_cases h1 : n.op <= 6 ∨ n.op = 17
 ·rw [if_pos h1]; exact .inl ⟨rfl, by omega⟩
 ·rw [if_neg h1]
  by_cases h2 : n.op = 7 ∨ n.op = 8
  ·rw [if_pos h2]; exact .inr (.inl ⟨rfl, h2⟩)
  ·rw [if_neg h2]; exact .inr (.inr ⟨rfl, by omega⟩)
def e0 : Ent := (4, [])
def zeN (n : Nd) (st : List Ent) : List Ent := (hld n.op, zaB n (if T.arN n.op = 2 then (st[1]?).getD e0 else (st[0]?).getD e0) ((st[0]?).getD e0)) :: st.drop (T.arN n.op)
def shK (L : List Nd) : Nat -> List Ent
 | 0 => []
 | k + 1 => match L[k]? with
  | some n => zeN n (shK L k)
  | none => shK L k
def shI (L : List Nd) : List It := ((shK L L.length)[0]?.getD e0).2
theorem zbN {L : List Nd} {k : Nat} {n : Nd} (h : L[k]? = some n) : shK L (k + 1) = zeN n (shK L k) := by
 rw [shK, h]
def itX (x : It) : List UInt8 := match x with
 | none => [32]
 | some t => (tkX t).data.toList
def itT (l : List It) : List UInt8 := l.flatMap itX
theorem zar (a b : List It) : itT (a ++ b) = itT a ++ itT b := List.flatMap_append
theorem zaf (x : It) (l : List It) : itT (x :: l) = itX x ++ itT l := rfl
def pqK (a b : Int) : Bool := a == 16 || a == 8 || a == 9 || (a == 19 && !(b == 22) && !(b == 24) && !(b == 26)) || b == 17 || b == 20 || (decide (10 <= b) && decide (b <= 15))
def okI : List It -> Prop
 | [] => True
 | none :: r => okI r
 | some t :: r => (∀ u, r.head? = some (some u) -> pqK t.kd u.kd = true) /\ okI r
theorem zdc {a b : List It} (ha : okI a) (hb : okI b) (hj : ∀ t u, a.getLast? = some (some t) -> b.head? = some (some u) -> pqK t.kd u.kd = true) : okI (a ++ b) := by
 induction a with
 | nil => exact hb
 | cons x r ih =>
  have hj2 : ∀ t u, r.getLast? = some (some t) -> b.head? = some (some u) -> pqK t.kd u.kd = true := fun t u h1 h2 => hj t u (by rw [List.getLast?_cons, h1]; rfl) h2
  cases x with
  | none => exact ih ha hj2
  | some t =>
   refine ⟨fun u hu => ?_, ih ha.2 hj2⟩
   cases r with
   | nil => exact hj t u rfl hu
   | cons y r => exact ha.1 u hu
theorem zoA {s : ByteArray} {i : Nat} {c k : Int} (h : chr s i = c) (hc : (c = 40 /\ k = 16) ∨ (c = 38 /\ k = 8) ∨ (c = 33 /\ k = 9) ∨ (c = 123 /\ k = 19 /\ chr s (i + 1) ≠ 58 /\ chr s (i + 1) ≠ 124 /\ chr s (i + 1) ≠ 126)) : i < s.size /\ zb5 s i = i /\ zaA s i = .inl (sgT k i) := by
 have hlt : i < s.size := zaD (by omega)
 refine ⟨hlt, by rw [zb9, if_pos hlt, if_neg (by omega), if_neg (by omega)], ?_⟩
 unfold zaA
 rw [h]
 rcases hc with ⟨rfl, rfl⟩ | ⟨rfl, rfl⟩ | ⟨rfl, rfl⟩ | ⟨rfl, rfl, h1, h2, h3⟩
 ·rw [if_neg (by decide), if_neg (by decide), if_neg (by decide), if_neg (by decide), if_neg (by decide)]
  unfold zbm
  rw [za9, h]
  rfl
 ·rw [if_neg (by decide), if_neg (by decide), if_neg (by decide), if_neg (by decide), if_neg (by decide)]
  unfold zbm
  rw [za9, h]
  rfl
 ·rw [if_neg (by decide), if_neg (by decide), if_neg (by decide), if_neg (by decide), if_neg (by decide)]
  unfold zbm
  rw [za9, h]
  rfl
 ·rw [if_neg (by decide), if_neg (by decide), if_neg (by decide), if_neg (by decide), if_neg (by decide)]
  unfold zbm
  have e : sgC 123 (chr s (i + 1)) = (19, [123]) := by
   unfold sgC
   rw [if_neg (by decide), if_neg (by decide), if_neg (by decide), if_neg (by decide), if_neg (by decide), if_neg (by decide), if_neg (by decide), if_neg (by decide), if_neg (by decide), if_neg (by decide), if_neg (by decide), if_neg (by decide), if_neg (by decide), if_pos rfl, if_neg h1, if_neg h2, if_neg h3]
  rw [za9, h, e]
  rfl
theorem tk_sig {t : Tk} {c : UInt8} (hr : riF t = true) (hb : TkB t) (hx : tkX t = tx8 [c]) {k : Int} (hc : ((c.toNat : Int) = 40 /\ k = 16) ∨ ((c.toNat : Int) = 38 /\ k = 8) ∨ ((c.toNat : Int) = 33 /\ k = 9) ∨ ((c.toNat : Int) = 123 /\ k = 19)) (b : Nat) : lkT (sgT k b) = lkT t := by
 have h1 := (zfq hr hb).o
 rw [hx] at h1
 have h0 : chr (tx8 [c]) 0 = (c.toNat : Int) := by rw [zay]; rfl
 have h2 : chr (tx8 [c]) (0 + 1) = -1 := by rw [zay]; rfl
 have h3 := (zoA (k := k) h0 (by rw [h2]; omega)).2.2
 rw [h1] at h3
 injection h3 with h4
 have a1 := congrArg Tk.kd h4
 have a2 := congrArg Tk.nn h4
 have a3 := congrArg Tk.tx h4
 have a4 := congrArg Tk.s0 h4
 have a5 := congrArg Tk.s1 h4
 have a6 := congrArg Tk.s2 h4
 have a7 := congrArg Tk.s3 h4
 obtain ⟨kd, nn, fr, en, tx, s0, s1, s2, s3⟩ := t
 unfold sgT at a1 a2 a3 a4 a5 a6 a7
 dsimp only at a1 a2 a3 a4 a5 a6 a7
 subst a1 a2 a3 a4 a5 a6 a7
 rfl
theorem zeO {t : Tk} (h : t.kd = 16 ∨ t.kd = 8 ∨ t.kd = 9 ∨ t.kd = 19) : tkX t = txO (sgn t.kd.toNat) := by
 unfold tkX
 rw [if_neg (by omega), if_neg (by omega), if_neg (by omega), if_neg (by omega), if_neg (by omega), if_neg (by omega), if_neg (by omega), if_neg (by omega), if_neg (by omega), if_neg (by omega), if_neg (by omega), if_neg (by omega)]
theorem znt {t : Tk} (hr : riF t = true) (hb : TkB t) {s : ByteArray} {b : Nat} (ha : Ag (tkX t) 0 s b (tkX t).size) (he : zdU (chr s (b + (tkX t).size)) = true ∨ t.kd = 16 ∨ t.kd = 8 ∨ t.kd = 9 ∨ (t.kd = 19 /\ chr s (b + (tkX t).size) ≠ 58 /\ chr s (b + (tkX t).size) ≠ 124 /\ chr s (b + (tkX t).size) ≠ 126)) : 0 < (tkX t).size /\ zb5 s b = b /\ b < s.size /\ b + (tkX t).size <= s.size /\ ∃ u, zaA s b = .inl u /\ lkT u = lkT t /\ u.en = (b + (tkX t).size : Nat) := by
 by_cases hst : zdU (chr s (b + (tkX t).size)) = true
 ·obtain ⟨h1, h2, h3, h4, h5⟩ := zgW hr hb ha hst
  exact ⟨h1, h2, h3, h4, _, h5, rfl, rfl⟩
 ·have he : t.kd = 16 ∨ t.kd = 8 ∨ t.kd = 9 ∨ (t.kd = 19 /\ chr s (b + (tkX t).size) ≠ 58 /\ chr s (b + (tkX t).size) ≠ 124 /\ chr s (b + (tkX t).size) ≠ 126) := by
   rcases he with q | q
   ·exact absurd q hst
   ·exact q
  have key : ∀ (c : UInt8) (k : Int), tkX t = tx8 [c] -> (((c.toNat : Int) = 40 /\ k = 16) ∨ ((c.toNat : Int) = 38 /\ k = 8) ∨ ((c.toNat : Int) = 33 /\ k = 9) ∨ ((c.toNat : Int) = 123 /\ k = 19)) -> (k = 19 -> chr s (b + (tkX t).size) ≠ 58 /\ chr s (b + (tkX t).size) ≠ 124 /\ chr s (b + (tkX t).size) ≠ 126) -> 0 < (tkX t).size /\ zb5 s b = b /\ b < s.size /\ b + (tkX t).size <= s.size /\ ∃ u, zaA s b = .inl u /\ lkT u = lkT t /\ u.en = (b + (tkX t).size : Nat) := by
   intro c k hx hc h19
   have hz : (tkX t).size = 1 := by rw [hx]; rfl
   rw [hz] at ha h19 ⊢
   have h0 : chr s b = (c.toNat : Int) := by
    have := ha 0 (by omega)
    rw [hx] at this
    rw [Nat.add_zero, Nat.zero_add] at this
    rw [this, zay]
    rfl
   obtain ⟨g1, g2, g3⟩ := zoA (k := k) h0 (by
    rcases hc with q | q | q | q
    ·exact .inl q
    ·exact .inr (.inl q)
    ·exact .inr (.inr (.inl q))
    ·exact .inr (.inr (.inr ⟨q.1, q.2, h19 q.2⟩)))
   exact ⟨by omega, g2, g1, by omega, _, g3, tk_sig hr hb hx hc b, rfl⟩
  rcases he with q | q | q | ⟨q, q2⟩
  ·exact key 40 16 (by rw [zeO (.inl q), q]; rfl) (by decide) (fun z => absurd z (by decide))
  ·exact key 38 8 (by rw [zeO (.inr (.inl q)), q]; rfl) (by decide) (fun z => absurd z (by decide))
  ·exact key 33 9 (by rw [zeO (.inr (.inr (.inl q))), q]; rfl) (by decide) (fun z => absurd z (by decide))
  ·exact key 123 19 (by rw [zeO (.inr (.inr (.inr q))), q]; rfl) (by decide) (fun _ => q2)
theorem hcat (c : UInt8) (r : List UInt8) (m : List UInt8) : zdU (chL ((⟨(c :: r).toArray⟩ ++ txO m : ByteArray).data.toList) 0) = zdU (c.toNat : Int) := by
 rw [show (⟨(c :: r).toArray⟩ ++ txO m : ByteArray) = ⟨((c :: r) ++ m).toArray⟩ from by apply ByteArray.ext; simp [txO]]
 rfl
theorem zls {u : Tk} (hk : u.kd = 17 ∨ u.kd = 20 ∨ u.kd = 10 ∨ u.kd = 11 ∨ u.kd = 12 ∨ u.kd = 13 ∨ u.kd = 14 ∨ u.kd = 15) : zdU (chL (tkX u).data.toList 0) = true := by
 rcases hk with q | q | q | q | q | q | q | q
 ·unfold tkX
  rw [if_neg (by omega), if_neg (by omega), if_neg (by omega), if_neg (by omega), if_neg (by omega), if_neg (by omega), if_neg (by omega), if_neg (by omega), if_neg (by omega), if_neg (by omega), if_neg (by omega), if_neg (by omega), q]
  rfl
 ·unfold tkX
  rw [if_neg (by omega), if_neg (by omega), if_neg (by omega), if_neg (by omega), if_neg (by omega), if_neg (by omega), if_neg (by omega), if_neg (by omega), if_neg (by omega), if_neg (by omega), if_neg (by omega), if_neg (by omega), q]
  rfl
 ·unfold tkX
  rw [if_neg (by omega), if_neg (by omega), if_neg (by omega), if_neg (by omega), if_neg (by omega), if_neg (by omega), if_neg (by omega), if_neg (by omega), if_neg (by omega), if_neg (by omega), if_neg (by omega), if_neg (by omega), q]
  rfl
 ·unfold tkX
  rw [if_neg (by omega), if_neg (by omega), if_neg (by omega), if_neg (by omega), if_neg (by omega), if_neg (by omega), if_neg (by omega), if_neg (by omega), if_neg (by omega), if_neg (by omega), if_neg (by omega), if_neg (by omega), q]
  rfl
 ·unfold tkX
  rw [if_neg (by omega), if_neg (by omega), if_neg (by omega), if_neg (by omega), if_neg (by omega), if_neg (by omega), if_neg (by omega), if_neg (by omega), if_neg (by omega), if_neg (by omega), if_neg (by omega), if_neg (by omega), q]
  rfl
 ·unfold tkX
  rw [if_neg (by omega), if_neg (by omega), if_neg (by omega), if_neg (by omega), if_neg (by omega), if_neg (by omega), if_neg (by omega), if_pos q]
  exact hcat _ _ _
 ·unfold tkX
  rw [if_neg (by omega), if_neg (by omega), if_neg (by omega), if_neg (by omega), if_neg (by omega), if_neg (by omega), if_neg (by omega), if_neg (by omega), if_pos q]
  exact hcat _ _ _
 ·unfold tkX
  rw [if_neg (by omega), if_neg (by omega), if_neg (by omega), if_neg (by omega), if_neg (by omega), if_neg (by omega), if_neg (by omega), if_neg (by omega), if_neg (by omega), if_pos q]
  exact hcat _ _ _
theorem chr_tk (t : Tk) (i : Nat) : chr (tkX t) i = chL (tkX t).data.toList i := by
 rw [<- zay]
theorem fst_op {u : Tk} (hr : riF u = true) (hb : TkB u) (hk : u.kd ≠ 22 /\ u.kd ≠ 24 /\ u.kd ≠ 26) : chL (tkX u).data.toList 0 ≠ 58 /\ chL (tkX u).data.toList 0 ≠ 124 /\ chL (tkX u).data.toList 0 ≠ 126 := by
 have h1 := (zfq hr hb).o
 rw [<- chr_tk]
 have key : ∀ c : Int, (c = 58 ∨ c = 124 ∨ c = 126) -> chr (tkX u) 0 = c -> False := by
  intro c hc h0
  rw [zfp h0 (by rcases hc with rfl | rfl | rfl <;> rfl) (by rcases hc with rfl | rfl | rfl <;> rfl) (by omega) (by omega) (by omega)] at h1
  unfold zbm at h1
  rw [za9, h0] at h1
  generalize chr (tkX u) (0 + 1) = c1 at h1
  have hs : (sgC c c1).1 = 0 ∨ (sgC c c1).1 = 22 ∨ (sgC c c1).1 = 24 ∨ (sgC c c1).1 = 26 := by
   unfold sgC
   rcases hc with rfl | rfl | rfl
   ·simp only [show ¬ (58 : Int) = 37 by decide, show ¬ (58 : Int) = 94 by decide, show ¬ (58 : Int) = 60 by decide, show ¬ (58 : Int) = 45 by decide, show ¬ (58 : Int) = 47 by decide, show ¬ (58 : Int) = 38 by decide, show ¬ (58 : Int) = 33 by decide, show ¬ (58 : Int) = 63 by decide, show ¬ (58 : Int) = 42 by decide, show ¬ (58 : Int) = 43 by decide, show ¬ (58 : Int) = 40 by decide, show ¬ (58 : Int) = 41 by decide, show ¬ (58 : Int) = 46 by decide, show ¬ (58 : Int) = 123 by decide, if_false, if_true]
    split <;> simp
   ·simp only [show ¬ (124 : Int) = 37 by decide, show ¬ (124 : Int) = 94 by decide, show ¬ (124 : Int) = 60 by decide, show ¬ (124 : Int) = 45 by decide, show ¬ (124 : Int) = 47 by decide, show ¬ (124 : Int) = 38 by decide, show ¬ (124 : Int) = 33 by decide, show ¬ (124 : Int) = 63 by decide, show ¬ (124 : Int) = 42 by decide, show ¬ (124 : Int) = 43 by decide, show ¬ (124 : Int) = 40 by decide, show ¬ (124 : Int) = 41 by decide, show ¬ (124 : Int) = 46 by decide, show ¬ (124 : Int) = 123 by decide, show ¬ (124 : Int) = 58 by decide, if_false, if_true]
    split <;> simp
   ·simp only [show ¬ (126 : Int) = 37 by decide, show ¬ (126 : Int) = 94 by decide, show ¬ (126 : Int) = 60 by decide, show ¬ (126 : Int) = 45 by decide, show ¬ (126 : Int) = 47 by decide, show ¬ (126 : Int) = 38 by decide, show ¬ (126 : Int) = 33 by decide, show ¬ (126 : Int) = 63 by decide, show ¬ (126 : Int) = 42 by decide, show ¬ (126 : Int) = 43 by decide, show ¬ (126 : Int) = 40 by decide, show ¬ (126 : Int) = 41 by decide, show ¬ (126 : Int) = 46 by decide, show ¬ (126 : Int) = 123 by decide, show ¬ (126 : Int) = 58 by decide, show ¬ (126 : Int) = 124 by decide, if_false, if_true]
    split <;> simp
  generalize sgC c c1 = z at *
  rcases hs with q | q | q | q
  ·rw [if_pos q] at h1; cases h1
  ·rw [if_neg (by omega), if_neg (by omega), if_neg (by omega)] at h1
   injection h1 with h2
   have := congrArg Tk.kd h2
   dsimp only at this
   omega
  ·rw [if_neg (by omega), if_neg (by omega), if_neg (by omega)] at h1
   injection h1 with h2
   have := congrArg Tk.kd h2
   dsimp only at this
   omega
  ·rw [if_neg (by omega), if_neg (by omega), if_neg (by omega)] at h1
   injection h1 with h2
   have := congrArg Tk.kd h2
   dsimp only at this
   omega
 exact ⟨fun e => key 58 (by omega) e, fun e => key 124 (by omega) e, fun e => key 126 (by omega) e⟩
theorem zqJ : ∀ (its : List It), okI its -> (∀ t ∈ zcn its, riF t = true /\ TkB t) -> ∀ (p q : List UInt8) (M : List Tk), (∀ t, its.getLast? = some (some t) -> zdU (chL q 0) = true) -> Chn (tx8 (p ++ (itT its ++ q))) (p.length + (itT its).length) M -> ∃ l2, Chn (tx8 (p ++ (itT its ++ q))) p.length (l2 ++ M) /\ l2.map lkT = (zcn its).map lkT := by
 intro its
 induction its with
 | nil => intro _ _ p q M _ hM; exact ⟨[], hM, rfl⟩
 | cons x r ih =>
  intro hok hr p q M hq hM
  have hq2 : ∀ t, r.getLast? = some (some t) -> zdU (chL q 0) = true := fun t ht => hq t (by rw [List.getLast?_cons, ht]; rfl)
  have e1 : p ++ (itT (x :: r) ++ q) = (p ++ itX x) ++ (itT r ++ q) := by rw [zaf]; simp only [List.append_assoc]
  have e2 : p.length + (itT (x :: r)).length = (p ++ itX x).length + (itT r).length := by rw [zaf]; simp only [List.length_append]; omega
  rw [e1, e2] at hM
  rw [e1]
  cases x with
  | none =>
   obtain ⟨l2, h1, h2⟩ := ih hok hr (p ++ itX none) q M hq2 hM
   refine ⟨l2, ?_, h2⟩
   have h0 : chr (tx8 (p ++ itX none ++ (itT r ++ q))) p.length = 32 := by
    rw [List.append_assoc, at0]; rfl
   refine chn_bl h0 (.inl rfl) ?_
   have : (p ++ itX none).length = p.length + 1 := by rw [List.length_append]; rfl
   rw [<- this]
   exact h1
  | some t =>
   have hrt := hr t (by unfold zcn; exact List.mem_filterMap.2 ⟨some t, List.mem_cons_self, rfl⟩)
   have hr2 : ∀ u ∈ zcn r, riF u = true /\ TkB u := fun u hu => hr u (by
    unfold zcn at hu ⊢
    rw [List.filterMap_cons]
    exact List.mem_cons_of_mem _ hu)
   obtain ⟨l2, h1, h2⟩ := ih hok.2 hr2 (p ++ itX (some t)) q M hq2 hM
   have hX : tkX t = tx8 (tkX t).data.toList := by apply ByteArray.ext; simp
   have hXs : (tkX t).size = (tkX t).data.toList.length := rfl
   have ha : Ag (tkX t) 0 (tx8 (p ++ itX (some t) ++ (itT r ++ q))) p.length (tkX t).size := by
    have := zla p (tkX t).data.toList (itT r ++ q)
    rw [<- hX, <- hXs] at this
    exact this
   have hnx : chr (tx8 (p ++ itX (some t) ++ (itT r ++ q))) (p.length + (tkX t).size) = chL (itT r ++ q) 0 := by
    have := at0 (p ++ itX (some t)) (itT r ++ q)
    rw [List.length_append] at this
    exact this
   have he : zdU (chL (itT r ++ q) 0) = true ∨ t.kd = 16 ∨ t.kd = 8 ∨ t.kd = 9 ∨ (t.kd = 19 /\ chL (itT r ++ q) 0 ≠ 58 /\ chL (itT r ++ q) 0 ≠ 124 /\ chL (itT r ++ q) 0 ≠ 126) := by
    cases r with
    | nil => exact .inl (hq t rfl)
    | cons y r =>
     cases y with
     | none => exact .inl rfl
     | some u =>
      have hru := hr2 u (by unfold zcn; exact List.mem_filterMap.2 ⟨some u, List.mem_cons_self, rfl⟩)
      have hf : chL (itT (some u :: r) ++ q) 0 = chL (tkX u).data.toList 0 := by
       rw [zaf, List.append_assoc]
       exact zf4 _ _ _ (zfq hru.1 hru.2).p
      rw [hf]
      have hp := hok.1 u rfl
      unfold pqK at hp
      simp only [Bool.or_eq_true, Bool.and_eq_true, beq_iff_eq, decide_eq_true_eq, Bool.not_eq_true', beq_eq_false_iff_ne] at hp
      rcases hp with (((((hp | hp) | hp) | hp) | hp) | hp) | hp
      ·exact .inr (.inl hp)
      ·exact .inr (.inr (.inl hp))
      ·exact .inr (.inr (.inr (.inl hp)))
      ·exact .inr (.inr (.inr (.inr ⟨hp.1.1.1, fst_op hru.1 hru.2 ⟨hp.1.1.2, hp.1.2, hp.2⟩⟩)))
      ·exact .inl (zls (by omega))
      ·exact .inl (zls (by omega))
      ·exact .inl (zls (by omega))
   rw [<- hnx] at he
   obtain ⟨g1, g2, g3, g4, v, g5, g6, g7⟩ := znt hrt.1 hrt.2 ha he
   refine ⟨v :: l2, ⟨by rw [g2]; exact g3, by rw [g2]; exact g5, p.length + (tkX t).size, g7, by rw [g2]; omega, g4, ?_⟩, ?_⟩
   ·have : (p ++ itX (some t)).length = p.length + (tkX t).size := by rw [List.length_append]; rfl
    rw [<- this]
    exact h1
   ·rw [List.map_cons, h2, g6]
    rfl
def hdK (k : Int) : Bool := bgK k || k == 1
structure ShE (x : List It) : Prop where
 ok : okI x
 hd : ∃ t, x.head? = some (some t) /\ hdK t.kd = true
 ls : ∃ t, x.getLast? = some (some t)
 rt : ∀ t ∈ zcn x, Rgt t
structure NdW (n : Nd) : Prop where
 a : 0 <= n.s0 /\ n.s0 < 18446744073709551616
 b : 0 <= n.s1 /\ n.s1 < 18446744073709551616
 c : 0 <= n.s2 /\ n.s2 < 18446744073709551616
 d : 0 <= n.s3 /\ n.s3 < 18446744073709551616
theorem mem_tks {t : Tk} {l : List It} : t ∈ zcn l ↔ some t ∈ l := by
 unfold zcn
 rw [List.mem_filterMap]
 exact ⟨fun ⟨x, h1, h2⟩ => by rw [show x = some t from h2] at h1; exact h1, fun h => ⟨some t, h, rfl⟩⟩
theorem zcb {k : Int} (h : sgK k = true) (h0 : ¬ k = 0) (h1 : ¬ (k = 13 ∨ k = 14 ∨ k = 15)) (h2 : ¬ k = 21) : Rgt ⟨k, 0, 0, 0, ⟨#[]⟩, 0, 0, 0, 0⟩ := Rgt.plain (zou h h0 h1 h2) (by omega)
theorem zqK {s : ByteArray} (h : zfo s = true) : Rgt ⟨1, 0, 0, 0, s, 0, 0, 0, 0⟩ := Rgt.plain (zlf h) (by omega)
theorem rg_grp {s : ByteArray} (h : s = ⟨#[]⟩ ∨ zfo s = true) : Rgt ⟨21, 0, 0, 0, s, 0, 0, 0, 0⟩ := by
 rcases h with rfl | h
 ·exact Rgt.plain zhT (by omega)
 ·exact Rgt.plain (zot h) (by omega)
theorem zlt {s : ByteArray} (h : s.size <= 255) : Rgt ⟨2, 0, 0, 0, s, 0, 0, 0, 0⟩ := by
 refine Rgt.plain ?_ (by omega)
 unfold riF txF nbF seF gtK
 simp
 omega
theorem rg_set {a b c d : Int} (ha : 0 <= a /\ a < 18446744073709551616) (hb : 0 <= b /\ b < 18446744073709551616) (hc : 0 <= c /\ c < 18446744073709551616) (hd : 0 <= d /\ d < 18446744073709551616) : Rgt ⟨3, 0, 0, 0, ⟨#[]⟩, a, b, c, d⟩ := by
 refine ⟨?_, ⟨by show (0 : Int) < _; omega, ha.1, ha.2, hb, hc, hd⟩⟩
 have em : ((⟨#[]⟩ : ByteArray).toList == []) = true := by rw [ByteArray.toList_eq]; rfl
 unfold riF txF nbF seF gtK
 simp []
theorem ziH {k n : Int} (hk : k = 4 ∨ k = 13 ∨ k = 14 ∨ k = 15) (h0 : 0 <= n) (h1 : n <= 50) : Rgt ⟨k, n, 0, 0, ⟨#[]⟩, 0, 0, 0, 0⟩ := by
 refine Rgt.plain ?_ (by omega)
 have em : ((⟨#[]⟩ : ByteArray).toList == []) = true := by rw [ByteArray.toList_eq]; rfl
 unfold riF txF nbF seF gtK
 rcases hk with rfl | rfl | rfl | rfl <;> simp [] <;> omega
theorem zqL {s : ByteArray} (h : T.nmB s = true) : zfo s = true := by
 have h : T.NmP s := by unfold T.nmB at h; exact @of_decide_eq_true _ (T.zmd _) h
 obtain ⟨h1, h2, h3, h4⟩ := h
 have hc : ∀ (j : Nat) (q : j < s.size), chr s j = (s[j].toNat : Int) := fun j q => zai q
 have hn : ∀ j, j < s.size -> nmB (chr s j) = true := fun j q => by
  have := h4 j q
  rw [<- hc j q] at this
  unfold T.nmC T.dgB T.ltB at this
  unfold nmB hdB dgB
  simp only [Bool.or_eq_true, Bool.and_eq_true, decide_eq_true_eq, beq_iff_eq] at this ⊢
  omega
 have hh : hdB (chr s 0) = true := by
  have a := h4 0 h1
  have b := h3 h1
  rw [<- hc 0 h1] at a b
  unfold T.nmC T.ltB at a
  rw [b] at a
  unfold hdB
  simp only [Bool.or_eq_true, Bool.and_eq_true, decide_eq_true_eq, beq_iff_eq, Bool.false_or] at a ⊢
  omega
 have he : spN nmB s 0 = s.size := zgS rfl (Nat.zero_le _) (fun k _ q => hn k q) (by rw [zas (by omega)]; rfl)
 unfold zfo
 rw [decide_eq_true h1, decide_eq_true h2, hh, he]
 simp
theorem zcw {t : Tk} (h : hdK t.kd = true) (hr : Rgt t) : ShE [some t] :=
 ⟨⟨(fun u hu => by cases hu), trivial⟩, ⟨t, rfl, h⟩, ⟨t, rfl⟩, fun u hu => by
  rw [mem_tks, List.mem_singleton] at hu
  cases hu
  exact hr⟩
theorem zcx {x : List It} (h : ShE x) {u : Tk} (hu : Rgt u) (hk : pqK 0 u.kd = true) : ShE (x ++ [some u]) := by
 obtain ⟨t, ht, hk1⟩ := h.hd
 refine ⟨zdc h.ok ⟨(fun v hv => by cases hv), trivial⟩ (fun a b _ hb => ?_), ⟨t, by rw [List.head?_append, ht]; rfl, hk1⟩, ⟨u, by rw [List.getLast?_append]; rfl⟩, fun v hv => ?_⟩
 ·cases hb
  unfold pqK at hk ⊢
  simp only [Bool.or_eq_true, Bool.and_eq_true, beq_iff_eq, decide_eq_true_eq, Bool.not_eq_true', beq_eq_false_iff_ne] at hk ⊢
  omega
 ·rw [mem_tks, List.mem_append, List.mem_singleton] at hv
  rcases hv with q | q
  ·exact h.rt v (mem_tks.2 q)
  ·cases q; exact hu
theorem zlu {x y m : List It} (h : ShE x) (g : ShE y) (hm : okI ([none] ++ m)) (hml : ∀ t, ([none] ++ m).getLast? ≠ some (some t)) (hr : ∀ t ∈ zcn m, Rgt t) : ShE (x ++ ([none] ++ m ++ y)) := by
 obtain ⟨t, ht, hk1⟩ := h.hd
 obtain ⟨l, hl⟩ := g.ls
 refine ⟨zdc h.ok (zdc hm g.ok (fun a b ha _ => absurd ha (hml a))) (fun a b _ hb => by cases hb), ⟨t, by rw [List.head?_append, ht]; rfl, hk1⟩, ⟨l, ?_⟩, fun v hv => ?_⟩
 ·rw [List.getLast?_append, List.getLast?_append, hl]
  rfl
 ·rw [mem_tks, List.mem_append, List.mem_append, List.mem_append] at hv
  rcases hv with q | (q | q) | q
  ·exact h.rt v (mem_tks.2 q)
  ·simp at q
  ·exact hr v (mem_tks.2 q)
  ·exact g.rt v (mem_tks.2 q)
theorem ziI {x : List It} (h : ShE x) {u : Tk} (hu : Rgt u) : ShE (x ++ [none, sgI 27, none, some u]) := by
 obtain ⟨t, ht, hk1⟩ := h.hd
 refine ⟨zdc h.ok ⟨(fun v hv => by cases hv), (fun v hv => by cases hv), trivial⟩ (fun a b _ hb => by cases hb), ⟨t, by rw [List.head?_append, ht]; rfl, hk1⟩, ⟨u, by rw [List.getLast?_append]; rfl⟩, fun v hv => ?_⟩
 rw [mem_tks, List.mem_append] at hv
 rcases hv with q | q
 ·exact h.rt v (mem_tks.2 q)
 ·simp only [List.mem_cons, List.not_mem_nil, or_false] at q
  rcases q with q | q | q | q
  ·cases q
  ·cases q; exact zcb (by decide) (by decide) (by decide) (by decide)
  ·cases q
  ·cases q; exact hu
theorem zf6 {x : List It} (h : ShE x) {o : Tk} (ho : Rgt o) (hk : hdK o.kd = true) (hp : o.kd = 16 ∨ o.kd = 8 ∨ o.kd = 9 ∨ o.kd = 19) : ShE ([some o] ++ x) := by
 obtain ⟨t, ht, hk1⟩ := h.hd
 obtain ⟨l, hl⟩ := h.ls
 refine ⟨zdc ⟨(fun v hv => by cases hv), trivial⟩ h.ok (fun a b ha hb => ?_), ⟨o, rfl, hk⟩, ⟨l, by rw [List.getLast?_append, hl]; rfl⟩, fun v hv => ?_⟩
 ·cases ha
  rw [ht] at hb
  cases hb
  have hb3 : t.kd ≠ 22 /\ t.kd ≠ 24 /\ t.kd ≠ 26 := by
   unfold hdK bgK at hk1
   simp only [Bool.or_eq_true, beq_iff_eq] at hk1
   omega
  unfold pqK
  simp only [Bool.or_eq_true, Bool.and_eq_true, beq_iff_eq, decide_eq_true_eq, Bool.not_eq_true', beq_eq_false_iff_ne]
  omega
 ·rw [mem_tks, List.mem_append, List.mem_singleton] at hv
  rcases hv with q | q
  ·cases q; exact ho
  ·exact h.rt v (mem_tks.2 q)
theorem zf7 {x : List It} (h : ShE x) {o : Tk} (ho : Rgt o) (hk : hdK o.kd = true) : ShE ([some o, none] ++ x) := by
 obtain ⟨l, hl⟩ := h.ls
 refine ⟨zdc ⟨(fun v hv => by cases hv), trivial⟩ h.ok (fun a b ha hb => by cases ha), ⟨o, rfl, hk⟩, ⟨l, by rw [List.getLast?_append, hl]; rfl⟩, fun v hv => ?_⟩
 rw [mem_tks, List.mem_append] at hv
 rcases hv with q | q
 ·simp only [List.mem_cons, List.not_mem_nil, or_false] at q
  rcases q with q | q
  ·cases q; exact ho
  ·cases q
 ·exact h.rt v (mem_tks.2 q)
theorem zf8 {x : List It} (h : ShE x) {c : Tk} (hc : Rgt c) : ShE (x ++ [none, some c]) := by
 obtain ⟨t, ht, hk1⟩ := h.hd
 refine ⟨zdc h.ok ⟨(fun v hv => by cases hv), trivial⟩ (fun a b _ hb => by cases hb), ⟨t, by rw [List.head?_append, ht]; rfl, hk1⟩, ⟨c, by rw [List.getLast?_append]; rfl⟩, fun v hv => ?_⟩
 rw [mem_tks, List.mem_append] at hv
 rcases hv with q | q
 ·exact h.rt v (mem_tks.2 q)
 ·simp only [List.mem_cons, List.not_mem_nil, or_false] at q
  rcases q with q | q
  ·cases q
  ·cases q; exact hc
theorem zaP {x : Ent} (h : ShE x.2) (k : Nat) : ShE (zaq k x) := by
 unfold zaq
 split
 ·exact zf6 (zcx h (u := ⟨17, 0, 0, 0, ⟨#[]⟩, 0, 0, 0, 0⟩) (zcb (by decide) (by decide) (by decide) (by decide)) rfl) (zcb (by decide) (by decide) (by decide) (by decide)) rfl (.inl rfl)
 ·exact h
theorem tx4 {n : Nd} (h : T.alE n = 0) (ho : n.op = 4) : 1 <= n.tx.size /\ n.tx.size <= 255 := by
 have := (ze8 h).2.1
 unfold T.txF at this
 rw [if_pos ho] at this
 exact of_decide_eq_true this
theorem tx6 {n : Nd} (h : T.alE n = 0) (ho : n.op = 6) : zfo n.tx = true := by
 have := (ze8 h).2.1
 unfold T.txF at this
 rw [if_neg (by omega), if_pos ho] at this
 exact zqL this
theorem tx19 {n : Nd} (h : T.alE n = 0) (ho : n.op = 19) : n.tx = ⟨#[]⟩ ∨ zfo n.tx = true := by
 have := (ze8 h).2.1
 unfold T.txF at this
 rw [if_neg (by omega), if_neg (by omega), if_pos ho, Bool.or_eq_true] at this
 rcases this with q | q
 ·exact .inl (ziy (by have := of_decide_eq_true q; omega))
 ·exact .inr (zqL q)
theorem tx22 {n : Nd} (h : T.alE n = 0) (ho : n.op = 22) : n.tx.size <= 255 := by
 have := (ze8 h).2.1
 unfold T.txF at this
 rw [if_neg (by omega), if_neg (by omega), if_neg (by omega), if_pos ho] at this
 unfold T.tmB at this
 split at this
 ·assumption
 ·cases this
theorem znu {n : Nd} (h : T.alE n = 0) (hw : NdW n) (a b : Ent) (ha : 1 <= T.arN n.op -> ShE a.2) (hb : T.arN n.op = 2 -> ShE b.2) : ShE (zaB n a b) := by
 rcases zdP h with ⟨z, o⟩ | ⟨z, o⟩ | ⟨z, o⟩
 ·rcases o with o | o | o | o | o | o | o
  ·rw [zg0 o]
   exact zcw (t := ⟨29, 0, 0, 0, ⟨#[]⟩, 0, 0, 0, 0⟩) rfl (zcb (by decide) (by decide) (by decide) (by decide))
  ·rw [zg1 o]
   exact zcw (t := ⟨30, 0, 0, 0, ⟨#[]⟩, 0, 0, 0, 0⟩) rfl (zcb (by decide) (by decide) (by decide) (by decide))
  ·rw [zg2 o]
   exact zcw (t := ⟨18, 0, 0, 0, ⟨#[]⟩, 0, 0, 0, 0⟩) rfl (zcb (by decide) (by decide) (by decide) (by decide))
  ·rw [zg3 o]
   exact zcw (t := ⟨2, 0, 0, 0, n.tx, 0, 0, 0, 0⟩) rfl (zlt (by have := tx4 h o; omega))
  ·rw [zg4 o]
   exact zcw (t := ⟨3, 0, 0, 0, ⟨#[]⟩, n.s0, n.s1, n.s2, n.s3⟩) rfl (rg_set hw.a hw.b hw.c hw.d)
  ·rw [zg5 o]
   exact zcw (t := ⟨1, 0, 0, 0, n.tx, 0, 0, 0, 0⟩) rfl (zqK (tx6 h o))
  ·rw [zeG o]
   exact zcx (x := [sgI 19]) (zcw (t := ⟨19, 0, 0, 0, ⟨#[]⟩, 0, 0, 0, 0⟩) rfl (zcb (by decide) (by decide) (by decide) (by decide))) (u := ⟨20, 0, 0, 0, ⟨#[]⟩, 0, 0, 0, 0⟩) (zcb (by decide) (by decide) (by decide) (by decide)) rfl
 ·rcases o with o | o
  ·rw [zg6 o]
   exact zlu (m := []) (zaP (ha (by omega)) 1) (zaP (hb (by omega)) 2) trivial (fun t q => by cases q) (fun t q => by cases q)
  ·rw [zg7 o]
   exact zlu (m := [sgI 7, none]) (zaP (ha (by omega)) 0) (zaP (hb (by omega)) 1) ⟨(fun v q => by cases q), trivial⟩ (fun t q => by cases q) (fun t q => by rw [List.mem_singleton.1 q]; exact (zcb (by decide) (by decide) (by decide) (by decide)))
 ·rcases o with o | o | o | o | o | o | o | o | o | o | o | o | o | o
  ·rw [zg8 o]
   exact zcx (zaP (ha (by omega)) 3) (u := ⟨11, 0, 0, 0, ⟨#[]⟩, 0, 0, 0, 0⟩) (zcb (by decide) (by decide) (by decide) (by decide)) rfl
  ·rw [zez o]
   exact zcx (zaP (ha (by omega)) 3) (u := ⟨12, 0, 0, 0, ⟨#[]⟩, 0, 0, 0, 0⟩) (zcb (by decide) (by decide) (by decide) (by decide)) rfl
  ·rw [zeA o]
   exact zcx (zaP (ha (by omega)) 3) (u := ⟨10, 0, 0, 0, ⟨#[]⟩, 0, 0, 0, 0⟩) (zcb (by decide) (by decide) (by decide) (by decide)) rfl
  ·rw [zeB o]
   exact zf6 (zaP (ha (by omega)) 2) (o := ⟨8, 0, 0, 0, ⟨#[]⟩, 0, 0, 0, 0⟩) (zcb (by decide) (by decide) (by decide) (by decide)) rfl (by decide)
  ·rw [zeC o]
   exact zf6 (zaP (ha (by omega)) 2) (o := ⟨9, 0, 0, 0, ⟨#[]⟩, 0, 0, 0, 0⟩) (zcb (by decide) (by decide) (by decide) (by decide)) rfl (by decide)
  ·rw [zeD o]
   exact zcx (zaP (ha (by omega)) 3) (u := ⟨13, n.nn, 0, 0, ⟨#[]⟩, 0, 0, 0, 0⟩) (ziH (by omega) (zow h (by omega)).2.1 (zow h (by omega)).2.2) rfl
  ·rw [zeE o]
   exact zcx (zaP (ha (by omega)) 3) (u := ⟨14, n.nn, 0, 0, ⟨#[]⟩, 0, 0, 0, 0⟩) (ziH (by omega) (zow h (by omega)).2.1 (zow h (by omega)).2.2) rfl
  ·rw [zeF o]
   exact zcx (zaP (ha (by omega)) 3) (u := ⟨15, n.nn, 0, 0, ⟨#[]⟩, 0, 0, 0, 0⟩) (ziH (by omega) (zow h (by omega)).2.1 (zow h (by omega)).2.2) rfl
  ·rw [zeH o]
   exact zf6 (zcx (zaP (ha (by omega)) 0) (u := ⟨20, 0, 0, 0, ⟨#[]⟩, 0, 0, 0, 0⟩) (zcb (by decide) (by decide) (by decide) (by decide)) rfl) (o := ⟨19, 0, 0, 0, ⟨#[]⟩, 0, 0, 0, 0⟩) (zcb (by decide) (by decide) (by decide) (by decide)) rfl (by decide)
  ·rw [zeI o]
   exact zf7 (zf8 (zaP (ha (by omega)) 0) (c := ⟨22, 0, 0, 0, ⟨#[]⟩, 0, 0, 0, 0⟩) (zcb (by decide) (by decide) (by decide) (by decide))) (o := ⟨21, 0, 0, 0, n.tx, 0, 0, 0, 0⟩) (rg_grp (tx19 h o)) rfl
  ·rw [zeJ o]
   exact zf7 (zf8 (zaP (ha (by omega)) 0) (c := ⟨24, 0, 0, 0, ⟨#[]⟩, 0, 0, 0, 0⟩) (zcb (by decide) (by decide) (by decide) (by decide))) (o := ⟨23, 0, 0, 0, ⟨#[]⟩, 0, 0, 0, 0⟩) (zcb (by decide) (by decide) (by decide) (by decide)) rfl
  ·rw [zeK o]
   exact zf7 (zf8 (zaP (ha (by omega)) 0) (c := ⟨26, 0, 0, 0, ⟨#[]⟩, 0, 0, 0, 0⟩) (zcb (by decide) (by decide) (by decide) (by decide))) (o := ⟨25, 0, 0, 0, ⟨#[]⟩, 0, 0, 0, 0⟩) (zcb (by decide) (by decide) (by decide) (by decide)) rfl
  ·rw [zeL o]
   exact ziI (zaP (ha (by omega)) 3) (u := ⟨2, 0, 0, 0, n.tx, 0, 0, 0, 0⟩) (zlt (tx22 h o))
  ·rw [zeM o]
   exact ziI (zaP (ha (by omega)) 3) (u := ⟨4, n.nn, 0, 0, ⟨#[]⟩, 0, 0, 0, 0⟩) (ziH (by omega) (zow h (by omega)).2.1 (zow h (by omega)).2.2)
theorem zcN {L : List Nd} : ∀ k, k <= L.length -> (shK L k).length = (T.run L k).length := by
 intro k
 induction k with
 | zero => intro _; rfl
 | succ k ih =>
  intro hk
  have hn : L[k]? = some L[k] := List.getElem?_eq_getElem (by omega)
  rw [zbN hn, T.zcS, T.zeW hn]
  unfold zeN
  rw [List.length_cons, List.length_cons, List.length_drop, List.length_drop, ih (by omega)]
theorem zqM {L : List Nd} (he : ∀ j, j < L.length -> T.er L j = 0) (hw : ∀ n ∈ L, NdW n) : ∀ k, k <= L.length -> ∀ x ∈ shK L k, ShE x.2 := by
 intro k
 induction k with
 | zero => intro _ x hx; cases hx
 | succ k ih =>
  intro hk x hx
  have hn : L[k]? = some L[k] := List.getElem?_eq_getElem (by omega)
  have hm : L[k] ∈ L := List.getElem_mem (by omega)
  generalize L[k] = n at hn hm
  have hok := T.zdB hn (he k (by omega))
  have har := hok.ar
  rw [<- zcN k (by omega)] at har
  have i := ih (by omega)
  rw [zbN hn] at hx
  have key : ∀ j, j < (shK L k).length -> ShE ((shK L k)[j]?.getD e0).2 := fun j hj => by
   rw [List.getElem?_eq_getElem hj]
   exact i _ (List.getElem_mem hj)
  unfold zeN at hx
  rcases List.mem_cons.1 hx with rfl | hx
  ·refine znu hok.al (hw n hm) _ _ (fun h1 => ?_) (fun h2 => key 0 (by omega))
   by_cases h2 : T.arN n.op = 2
   ·rw [if_pos h2]; exact key 1 (by omega)
   ·rw [if_neg h2]; exact key 0 (by omega)
  ·exact i x (List.mem_of_mem_drop hx)
theorem zg9 {L : List Nd} (hr : T.Rt L) (hw : ∀ n ∈ L, NdW n) : ShE (shI L) := by
 have h1 := hr.one
 rw [<- zcN L.length (Nat.le_refl _)] at h1
 unfold shI
 rw [List.getElem?_eq_getElem (by omega)]
 exact zqM hr.each hw L.length (Nat.le_refl _) _ (List.getElem_mem (by omega))
def agT (n : Nd) : Option Tk :=
 if n.op = 4 ∨ n.op = 22 then some ⟨2, 0, 0, 0, n.tx, 0, 0, 0, 0⟩ else if n.op = 5 then some ⟨3, 0, 0, 0, ⟨#[]⟩, n.s0, n.s1, n.s2, n.s3⟩
 else if n.op = 6 then some ⟨1, 0, 0, 0, n.tx, 0, 0, 0, 0⟩ else if n.op = 19 then (if n.tx.size = 0 then none else some ⟨1, 0, 0, 0, n.tx, 0, 0, 0, 0⟩)
 else if n.op = 14 ∨ n.op = 15 ∨ n.op = 16 ∨ n.op = 23 then some ⟨4, n.nn, 0, 0, ⟨#[]⟩, 0, 0, 0, 0⟩ else none
theorem al_in {L : List Nd} (hr : T.Rt L) : ∀ n ∈ L, T.alE n = 0 := fun n hn => by
 obtain ⟨j, hj, rfl⟩ := List.mem_iff_getElem.1 hn
 exact (T.zdB (List.getElem?_eq_getElem hj) (hr.each j hj)).al
def enX (L : List Nd) (k : Nat) : Ent := (shK L (k + 1))[0]?.getD e0
theorem ziJ {L : List Nd} : ∀ k, k <= L.length -> ∀ (i : Nat) (p : T.Pt), (T.run L k)[i]? = some p -> (shK L k)[i]? = some (enX L p.2.1) := by
 intro k
 induction k with
 | zero => intro _ i p h; simp [T.run] at h
 | succ k ih =>
  intro hk i p h
  have hn : L[k]? = some L[k] := List.getElem?_eq_getElem (by omega)
  rw [T.zcS] at h
  cases i with
  | zero =>
   have hp : T.pt L k = p := by simpa using h
   rw [<- hp, show (T.pt L k).2.1 = k from T.zho L k _ _]
   unfold enX
   rw [zbN hn]
   rfl
  | succ i =>
   rw [List.getElem?_cons_succ, List.getElem?_drop, T.zeW hn] at h
   rw [zbN hn]
   unfold zeN
   rw [List.getElem?_cons_succ, List.getElem?_drop]
   exact ih (by omega) _ _ h
theorem zhW {L : List Nd} {k : Nat} (hk : k <= L.length) (he : ∀ j, j < k -> T.er L j = 0) : (∀ p, (T.run L k)[0]? = some p -> p = T.pt L (k - 1) /\ p.2.1 = k - 1 /\ 1 <= k) /\ (∀ p, (T.run L k)[1]? = some p -> p = T.pt L ((T.pt L (k - 1)).1 - 1) /\ p.2.1 = (T.pt L (k - 1)).1 - 1 /\ 1 <= (T.pt L (k - 1)).1) := by
 have h := T.zjY L k hk he
 cases hr : T.run L k with
 | nil => exact ⟨(fun p q => by cases q), (fun p q => by cases q)⟩
 | cons y r =>
  rw [hr] at h
  obtain ⟨h1, h2, h3, h4⟩ := h
  have hy : y.2.1 = k - 1 := by omega
  have hy2 : y = T.pt L (k - 1) := by rw [<- hy]; exact h2
  refine ⟨fun p q => ?_, fun p q => ?_⟩
  ·have : y = p := by simpa using q
   subst this
   exact ⟨hy2, hy, by omega⟩
  ·rw [<- hy2]
   cases r with
   | nil => cases q
   | cons x r =>
    have : x = p := by simpa using q
    subst this
    obtain ⟨g1, g2, g3, g4⟩ := h4
    have hx : x.2.1 = y.1 - 1 := by omega
    exact ⟨by rw [<- hx]; exact g2, hx, by omega⟩
theorem zlv {L : List Nd} {k : Nat} {n : Nd} (hn : L[k]? = some n) (he : ∀ j, j <= k -> T.er L j = 0) : enX L k = (hld n.op, zaB n (if T.arN n.op = 2 then enX L ((T.pt L (k - 1)).1 - 1) else if T.arN n.op = 1 then enX L (k - 1) else ((shK L k)[0]?).getD e0) (if T.arN n.op = 0 then ((shK L k)[0]?).getD e0 else enX L (k - 1))) := by
 have hk : k < L.length := (List.getElem?_eq_some_iff.1 hn).1
 have hok := T.zdB hn (he k (Nat.le_refl _))
 have har := hok.ar
 obtain ⟨r1, r2⟩ := zhW (Nat.le_of_lt hk) (fun j hj => he j (by omega))
 unfold enX
 rw [zbN hn]
 unfold zeN
 rw [List.getElem?_cons_zero, Option.getD_some]
 have s0 : 1 <= T.arN n.op -> (shK L k)[0]? = some (enX L (k - 1)) := fun h => by
  have hq : (T.run L k)[0]? = some (T.run L k)[0] := List.getElem?_eq_getElem (by omega)
  have := ziJ k (Nat.le_of_lt hk) 0 _ hq
  rw [(r1 _ hq).2.1] at this
  exact this
 have s1 : T.arN n.op = 2 -> (shK L k)[1]? = some (enX L ((T.pt L (k - 1)).1 - 1)) := fun h => by
  have hq : (T.run L k)[1]? = some (T.run L k)[1] := List.getElem?_eq_getElem (by omega)
  have := ziJ k (Nat.le_of_lt hk) 1 _ hq
  rw [(r2 _ hq).2.1] at this
  exact this
 by_cases a2 : T.arN n.op = 2
 ·rw [if_pos a2, if_pos a2, if_neg (by omega), s0 (by omega), s1 a2]
  rfl
 ·rw [if_neg a2, if_neg a2]
  by_cases a1 : T.arN n.op = 1
  ·rw [if_pos a1, if_neg (by omega), s0 (by omega)]
   rfl
  ·have := T.zcg n.op
   rw [if_neg a1, if_pos (by omega)]
theorem zlw {L : List Nd} (h : 0 < L.length) : shI L = (enX L (L.length - 1)).2 := by
 unfold shI enX
 rw [Nat.sub_add_cancel h]
theorem zaO : itT [] = [] := rfl
def zbf (n : Nd) : ByteArray := match agT n with
 | none => ⟨#[]⟩
 | some t => tkX t
def grS (s : ByteArray) : ByteArray := if s.size = 0 then ⟨#[123, 58]⟩ else ⟨#[123, 58]⟩ ++ s ++ ⟨#[58]⟩
def frA (n : Nd) : ByteArray := if n.op = 1 then ⟨#[37, 101]⟩ else if n.op = 2 then ⟨#[37, 102]⟩ else if n.op = 3 then ⟨#[46]⟩ else if n.op = 17 then ⟨#[123, 125]⟩ else if n.op = 12 then ⟨#[38]⟩ else if n.op = 13 then ⟨#[33]⟩ else
 if n.op = 18 then ⟨#[123]⟩ else if n.op = 19 then grS n.tx ++ ⟨#[32]⟩ else if n.op = 20 then ⟨#[123, 124, 32]⟩ else if n.op = 21 then ⟨#[123, 126, 32]⟩ else if n.op = 4 ∨ n.op = 5 ∨ n.op = 6 then zbf n else ⟨#[]⟩
def frB (n : Nd) : ByteArray := if n.op = 7 then ⟨#[32]⟩ else if n.op = 8 then ⟨#[32, 47, 32]⟩ else ⟨#[]⟩
def frC (n : Nd) : ByteArray := if n.op = 9 then ⟨#[42]⟩ else if n.op = 10 then ⟨#[43]⟩ else if n.op = 11 then ⟨#[63]⟩ else if n.op = 14 then ⟨#[94]⟩ ++ zbf n else if n.op = 15 then ⟨#[94, 43]⟩ ++ zbf n else
 if n.op = 16 then ⟨#[94, 45]⟩ ++ zbf n else if n.op = 22 ∨ n.op = 23 then ⟨#[32, 45, 62, 32]⟩ ++ zbf n else if n.op = 18 then ⟨#[125]⟩ else if n.op = 19 then ⟨#[32, 58, 125]⟩ else if n.op = 20 then ⟨#[32, 124, 125]⟩ else
 if n.op = 21 then ⟨#[32, 126, 125]⟩ else ⟨#[]⟩
def asK (op : Int) (i : Nat) : Nat := if hld op = 4 then 0 else hld op + i
theorem zba (a b : ByteArray) : (a ++ b).data.toList = a.data.toList ++ b.data.toList := by rw [ByteArray.data_append, Array.toList_append]
theorem znv (t : Tk) : itX (some t) = (tkX t).data.toList := rfl
theorem zqN (s : ByteArray) : itX (txI 21 s) = (grS s).data.toList := by
 show (tkX ⟨21, 0, 0, 0, s, 0, 0, 0, 0⟩).data.toList = _
 have e : tkX ⟨21, 0, 0, 0, s, 0, 0, 0, 0⟩ = ⟨#[123, 58]⟩ ++ gnm s := rfl
 rw [e, zba]
 unfold gnm grS
 by_cases h : s.size = 0
 ·rw [if_pos h, if_pos h]
  rfl
 ·rw [if_neg h, if_neg h, zba, zba, zba]
  rfl
theorem fdx4 {n : Nd} (h : n.op = 4) : zbf n = Q.zac (Q.qT n.tx) := by
 have : agT n = some ⟨2, 0, 0, 0, n.tx, 0, 0, 0, 0⟩ := by unfold agT; rw [h]; rfl
 unfold zbf
 rw [this]
 rfl
theorem zqO {n : Nd} (h : n.op = 22) : zbf n = Q.zac (Q.qT n.tx) := by
 have : agT n = some ⟨2, 0, 0, 0, n.tx, 0, 0, 0, 0⟩ := by unfold agT; rw [h]; rfl
 unfold zbf
 rw [this]
 rfl
theorem fdx5 {n : Nd} (h : n.op = 5) : zbf n = txO (shT (mkS n.s0 n.s1 n.s2 n.s3)) := by
 have : agT n = some ⟨3, 0, 0, 0, ⟨#[]⟩, n.s0, n.s1, n.s2, n.s3⟩ := by unfold agT; rw [h]; rfl
 unfold zbf
 rw [this]
 rfl
theorem fdx6 {n : Nd} (h : n.op = 6) : zbf n = n.tx := by
 have : agT n = some ⟨1, 0, 0, 0, n.tx, 0, 0, 0, 0⟩ := by unfold agT; rw [h]; rfl
 unfold zbf
 rw [this]
 rfl
theorem zqP {n : Nd} (h : n.op = 14) : zbf n = txO (dgT 10 n.nn.toNat) := by
 have : agT n = some ⟨4, n.nn, 0, 0, ⟨#[]⟩, 0, 0, 0, 0⟩ := by unfold agT; rw [h]; rfl
 unfold zbf
 rw [this]
 rfl
theorem zqQ {n : Nd} (h : n.op = 15) : zbf n = txO (dgT 10 n.nn.toNat) := by
 have : agT n = some ⟨4, n.nn, 0, 0, ⟨#[]⟩, 0, 0, 0, 0⟩ := by unfold agT; rw [h]; rfl
 unfold zbf
 rw [this]
 rfl
theorem zqR {n : Nd} (h : n.op = 16) : zbf n = txO (dgT 10 n.nn.toNat) := by
 have : agT n = some ⟨4, n.nn, 0, 0, ⟨#[]⟩, 0, 0, 0, 0⟩ := by unfold agT; rw [h]; rfl
 unfold zbf
 rw [this]
 rfl
theorem zqS {n : Nd} (h : n.op = 23) : zbf n = txO (dgT 10 n.nn.toNat) := by
 have : agT n = some ⟨4, n.nn, 0, 0, ⟨#[]⟩, 0, 0, 0, 0⟩ := by unfold agT; rw [h]; rfl
 unfold zbf
 rw [this]
 rfl
theorem fdx19 {n : Nd} (h : n.op = 19) : zbf n = n.tx := by
 have e : agT n = if n.tx.size = 0 then none else some ⟨1, 0, 0, 0, n.tx, 0, 0, 0, 0⟩ := by unfold agT; rw [h]; rfl
 unfold zbf
 rw [e]
 by_cases q : n.tx.size = 0
 ·rw [if_pos q]
  exact (ziy (by omega)).symm
 ·rw [if_neg q]
  rfl
theorem fdx1 {n : Nd} (h : n.op = 1) : zbf n = ⟨#[]⟩ := by
 have : agT n = none := by unfold agT; rw [h]; rfl
 unfold zbf
 rw [this]
theorem fdx2 {n : Nd} (h : n.op = 2) : zbf n = ⟨#[]⟩ := by
 have : agT n = none := by unfold agT; rw [h]; rfl
 unfold zbf
 rw [this]
theorem fdx3 {n : Nd} (h : n.op = 3) : zbf n = ⟨#[]⟩ := by
 have : agT n = none := by unfold agT; rw [h]; rfl
 unfold zbf
 rw [this]
theorem fdx7 {n : Nd} (h : n.op = 7) : zbf n = ⟨#[]⟩ := by
 have : agT n = none := by unfold agT; rw [h]; rfl
 unfold zbf
 rw [this]
theorem fdx8 {n : Nd} (h : n.op = 8) : zbf n = ⟨#[]⟩ := by
 have : agT n = none := by unfold agT; rw [h]; rfl
 unfold zbf
 rw [this]
theorem fdx9 {n : Nd} (h : n.op = 9) : zbf n = ⟨#[]⟩ := by
 have : agT n = none := by unfold agT; rw [h]; rfl
 unfold zbf
 rw [this]
theorem fdx10 {n : Nd} (h : n.op = 10) : zbf n = ⟨#[]⟩ := by
 have : agT n = none := by unfold agT; rw [h]; rfl
 unfold zbf
 rw [this]
theorem fdx11 {n : Nd} (h : n.op = 11) : zbf n = ⟨#[]⟩ := by
 have : agT n = none := by unfold agT; rw [h]; rfl
 unfold zbf
 rw [this]
theorem fdx12 {n : Nd} (h : n.op = 12) : zbf n = ⟨#[]⟩ := by
 have : agT n = none := by unfold agT; rw [h]; rfl
 unfold zbf
 rw [this]
theorem fdx13 {n : Nd} (h : n.op = 13) : zbf n = ⟨#[]⟩ := by
 have : agT n = none := by unfold agT; rw [h]; rfl
 unfold zbf
 rw [this]
theorem fdx17 {n : Nd} (h : n.op = 17) : zbf n = ⟨#[]⟩ := by
 have : agT n = none := by unfold agT; rw [h]; rfl
 unfold zbf
 rw [this]
theorem fdx18 {n : Nd} (h : n.op = 18) : zbf n = ⟨#[]⟩ := by
 have : agT n = none := by unfold agT; rw [h]; rfl
 unfold zbf
 rw [this]
theorem fdx20 {n : Nd} (h : n.op = 20) : zbf n = ⟨#[]⟩ := by
 have : agT n = none := by unfold agT; rw [h]; rfl
 unfold zbf
 rw [this]
theorem fdx21 {n : Nd} (h : n.op = 21) : zbf n = ⟨#[]⟩ := by
 have : agT n = none := by unfold agT; rw [h]; rfl
 unfold zbf
 rw [this]
theorem fr1 {n : Nd} (h : n.op = 1) : frA n = ⟨#[37, 101]⟩ /\ frB n = ⟨#[]⟩ /\ frC n = ⟨#[]⟩ := by
 refine ⟨?_, ?_, ?_⟩
 ·unfold frA; rw [h]; rfl
 ·unfold frB; rw [h]; rfl
 ·unfold frC; rw [h]; rfl
theorem fr2 {n : Nd} (h : n.op = 2) : frA n = ⟨#[37, 102]⟩ /\ frB n = ⟨#[]⟩ /\ frC n = ⟨#[]⟩ := by
 refine ⟨?_, ?_, ?_⟩
 ·unfold frA; rw [h]; rfl
 ·unfold frB; rw [h]; rfl
 ·unfold frC; rw [h]; rfl
theorem fr3 {n : Nd} (h : n.op = 3) : frA n = ⟨#[46]⟩ /\ frB n = ⟨#[]⟩ /\ frC n = ⟨#[]⟩ := by
 refine ⟨?_, ?_, ?_⟩
 ·unfold frA; rw [h]; rfl
 ·unfold frB; rw [h]; rfl
 ·unfold frC; rw [h]; rfl
theorem fr4 {n : Nd} (h : n.op = 4) : frA n = zbf n /\ frB n = ⟨#[]⟩ /\ frC n = ⟨#[]⟩ := by
 refine ⟨?_, ?_, ?_⟩
 ·unfold frA; rw [h]; rfl
 ·unfold frB; rw [h]; rfl
 ·unfold frC; rw [h]; rfl
theorem fr5 {n : Nd} (h : n.op = 5) : frA n = zbf n /\ frB n = ⟨#[]⟩ /\ frC n = ⟨#[]⟩ := by
 refine ⟨?_, ?_, ?_⟩
 ·unfold frA; rw [h]; rfl
 ·unfold frB; rw [h]; rfl
 ·unfold frC; rw [h]; rfl
theorem fr6 {n : Nd} (h : n.op = 6) : frA n = zbf n /\ frB n = ⟨#[]⟩ /\ frC n = ⟨#[]⟩ := by
 refine ⟨?_, ?_, ?_⟩
 ·unfold frA; rw [h]; rfl
 ·unfold frB; rw [h]; rfl
 ·unfold frC; rw [h]; rfl
theorem fr7 {n : Nd} (h : n.op = 7) : frA n = ⟨#[]⟩ /\ frB n = ⟨#[32]⟩ /\ frC n = ⟨#[]⟩ := by
 refine ⟨?_, ?_, ?_⟩
 ·unfold frA; rw [h]; rfl
 ·unfold frB; rw [h]; rfl
 ·unfold frC; rw [h]; rfl
theorem fr8 {n : Nd} (h : n.op = 8) : frA n = ⟨#[]⟩ /\ frB n = ⟨#[32, 47, 32]⟩ /\ frC n = ⟨#[]⟩ := by
 refine ⟨?_, ?_, ?_⟩
 ·unfold frA; rw [h]; rfl
 ·unfold frB; rw [h]; rfl
 ·unfold frC; rw [h]; rfl
theorem fr9 {n : Nd} (h : n.op = 9) : frA n = ⟨#[]⟩ /\ frB n = ⟨#[]⟩ /\ frC n = ⟨#[42]⟩ := by
 refine ⟨?_, ?_, ?_⟩
 ·unfold frA; rw [h]; rfl
 ·unfold frB; rw [h]; rfl
 ·unfold frC; rw [h]; rfl
theorem fr10 {n : Nd} (h : n.op = 10) : frA n = ⟨#[]⟩ /\ frB n = ⟨#[]⟩ /\ frC n = ⟨#[43]⟩ := by
 refine ⟨?_, ?_, ?_⟩
 ·unfold frA; rw [h]; rfl
 ·unfold frB; rw [h]; rfl
 ·unfold frC; rw [h]; rfl
theorem fr11 {n : Nd} (h : n.op = 11) : frA n = ⟨#[]⟩ /\ frB n = ⟨#[]⟩ /\ frC n = ⟨#[63]⟩ := by
 refine ⟨?_, ?_, ?_⟩
 ·unfold frA; rw [h]; rfl
 ·unfold frB; rw [h]; rfl
 ·unfold frC; rw [h]; rfl
theorem fr12 {n : Nd} (h : n.op = 12) : frA n = ⟨#[38]⟩ /\ frB n = ⟨#[]⟩ /\ frC n = ⟨#[]⟩ := by
 refine ⟨?_, ?_, ?_⟩
 ·unfold frA; rw [h]; rfl
 ·unfold frB; rw [h]; rfl
 ·unfold frC; rw [h]; rfl
theorem fr13 {n : Nd} (h : n.op = 13) : frA n = ⟨#[33]⟩ /\ frB n = ⟨#[]⟩ /\ frC n = ⟨#[]⟩ := by
 refine ⟨?_, ?_, ?_⟩
 ·unfold frA; rw [h]; rfl
 ·unfold frB; rw [h]; rfl
 ·unfold frC; rw [h]; rfl
theorem fr14 {n : Nd} (h : n.op = 14) : frA n = ⟨#[]⟩ /\ frB n = ⟨#[]⟩ /\ frC n = ⟨#[94]⟩ ++ zbf n := by
 refine ⟨?_, ?_, ?_⟩
 ·unfold frA; rw [h]; rfl
 ·unfold frB; rw [h]; rfl
 ·unfold frC; rw [h]; rfl
theorem fr15 {n : Nd} (h : n.op = 15) : frA n = ⟨#[]⟩ /\ frB n = ⟨#[]⟩ /\ frC n = ⟨#[94, 43]⟩ ++ zbf n := by
 refine ⟨?_, ?_, ?_⟩
 ·unfold frA; rw [h]; rfl
 ·unfold frB; rw [h]; rfl
 ·unfold frC; rw [h]; rfl
theorem fr16 {n : Nd} (h : n.op = 16) : frA n = ⟨#[]⟩ /\ frB n = ⟨#[]⟩ /\ frC n = ⟨#[94, 45]⟩ ++ zbf n := by
 refine ⟨?_, ?_, ?_⟩
 ·unfold frA; rw [h]; rfl
 ·unfold frB; rw [h]; rfl
 ·unfold frC; rw [h]; rfl
theorem fr17 {n : Nd} (h : n.op = 17) : frA n = ⟨#[123, 125]⟩ /\ frB n = ⟨#[]⟩ /\ frC n = ⟨#[]⟩ := by
 refine ⟨?_, ?_, ?_⟩
 ·unfold frA; rw [h]; rfl
 ·unfold frB; rw [h]; rfl
 ·unfold frC; rw [h]; rfl
theorem fr18 {n : Nd} (h : n.op = 18) : frA n = ⟨#[123]⟩ /\ frB n = ⟨#[]⟩ /\ frC n = ⟨#[125]⟩ := by
 refine ⟨?_, ?_, ?_⟩
 ·unfold frA; rw [h]; rfl
 ·unfold frB; rw [h]; rfl
 ·unfold frC; rw [h]; rfl
theorem fr19 {n : Nd} (h : n.op = 19) : frA n = grS n.tx ++ ⟨#[32]⟩ /\ frB n = ⟨#[]⟩ /\ frC n = ⟨#[32, 58, 125]⟩ := by
 refine ⟨?_, ?_, ?_⟩
 ·unfold frA; rw [h]; rfl
 ·unfold frB; rw [h]; rfl
 ·unfold frC; rw [h]; rfl
theorem fr20 {n : Nd} (h : n.op = 20) : frA n = ⟨#[123, 124, 32]⟩ /\ frB n = ⟨#[]⟩ /\ frC n = ⟨#[32, 124, 125]⟩ := by
 refine ⟨?_, ?_, ?_⟩
 ·unfold frA; rw [h]; rfl
 ·unfold frB; rw [h]; rfl
 ·unfold frC; rw [h]; rfl
theorem fr21 {n : Nd} (h : n.op = 21) : frA n = ⟨#[123, 126, 32]⟩ /\ frB n = ⟨#[]⟩ /\ frC n = ⟨#[32, 126, 125]⟩ := by
 refine ⟨?_, ?_, ?_⟩
 ·unfold frA; rw [h]; rfl
 ·unfold frB; rw [h]; rfl
 ·unfold frC; rw [h]; rfl
theorem fr22 {n : Nd} (h : n.op = 22) : frA n = ⟨#[]⟩ /\ frB n = ⟨#[]⟩ /\ frC n = ⟨#[32, 45, 62, 32]⟩ ++ zbf n := by
 refine ⟨?_, ?_, ?_⟩
 ·unfold frA; rw [h]; rfl
 ·unfold frB; rw [h]; rfl
 ·unfold frC; rw [h]; rfl
theorem fr23 {n : Nd} (h : n.op = 23) : frA n = ⟨#[]⟩ /\ frB n = ⟨#[]⟩ /\ frC n = ⟨#[32, 45, 62, 32]⟩ ++ zbf n := by
 refine ⟨?_, ?_, ?_⟩
 ·unfold frA; rw [h]; rfl
 ·unfold frB; rw [h]; rfl
 ·unfold frC; rw [h]; rfl
theorem zlx {n : Nd} (h : T.alE n = 0) (a b : Ent) : itT (zaB n a b) = (frA n).data.toList ++ ((if T.arN n.op = 0 then [] else if T.arN n.op = 1 then itT (zaq (asK n.op 0) a) else itT (zaq (asK n.op 0) a) ++ ((frB n).data.toList ++ itT (zaq (asK n.op 1) b))) ++ (frC n).data.toList) := by
 rcases zdP h with ⟨z, o⟩ | ⟨z, o⟩ | ⟨z, o⟩
 ·rcases o with o | o | o | o | o | o | o
  ·obtain ⟨fa, fb, fc⟩ := fr1 o
   rw [fa, fb, fc, zg0 o, z]
   rw [if_pos rfl, List.nil_append]
   simp only [zaf, zaO, List.append_nil]
   rfl
  ·obtain ⟨fa, fb, fc⟩ := fr2 o
   rw [fa, fb, fc, zg1 o, z]
   rw [if_pos rfl, List.nil_append]
   simp only [zaf, zaO, List.append_nil]
   rfl
  ·obtain ⟨fa, fb, fc⟩ := fr3 o
   rw [fa, fb, fc, zg2 o, z]
   rw [if_pos rfl, List.nil_append]
   simp only [zaf, zaO, List.append_nil]
   rfl
  ·obtain ⟨fa, fb, fc⟩ := fr4 o
   rw [fa, fb, fc, zg3 o, z]
   rw [fdx4 o]
   rw [if_pos rfl, List.nil_append]
   simp only [zaf, zaO, List.append_nil]
   rfl
  ·obtain ⟨fa, fb, fc⟩ := fr5 o
   rw [fa, fb, fc, zg4 o, z]
   rw [fdx5 o]
   rw [if_pos rfl, List.nil_append]
   simp only [zaf, zaO, List.append_nil]
   rfl
  ·obtain ⟨fa, fb, fc⟩ := fr6 o
   rw [fa, fb, fc, zg5 o, z]
   rw [fdx6 o]
   rw [if_pos rfl, List.nil_append]
   simp only [zaf, zaO, List.append_nil]
   rfl
  ·obtain ⟨fa, fb, fc⟩ := fr17 o
   rw [fa, fb, fc, zeG o, z]
   rw [if_pos rfl, List.nil_append]
   simp only [zaf, zaO, List.append_nil]
   rfl
 ·rcases o with o | o
  ·obtain ⟨fa, fb, fc⟩ := fr7 o
   rw [fa, fb, fc, zg6 o, z]
   have e : asK n.op 0 = 1 := by rw [o]; rfl
   have e1 : asK n.op 1 = 2 := by rw [o]; rfl
   rw [if_neg (by decide), if_neg (by decide), e, e1]
   simp only [zar, zaf, zaO, List.append_nil]
   rfl
  ·obtain ⟨fa, fb, fc⟩ := fr8 o
   rw [fa, fb, fc, zg7 o, z]
   have e : asK n.op 0 = 0 := by rw [o]; rfl
   have e1 : asK n.op 1 = 1 := by rw [o]; rfl
   rw [if_neg (by decide), if_neg (by decide), e, e1]
   simp only [zar, zaf, zaO, List.append_nil]
   rfl
 ·rcases o with o | o | o | o | o | o | o | o | o | o | o | o | o | o
  ·obtain ⟨fa, fb, fc⟩ := fr9 o
   rw [fa, fb, fc, zg8 o, z]
   have e : asK n.op 0 = 3 := by rw [o]; rfl
   rw [if_neg (by decide), if_pos rfl, e]
   simp only [zar, zaf, zaO, List.append_nil]
   rfl
  ·obtain ⟨fa, fb, fc⟩ := fr10 o
   rw [fa, fb, fc, zez o, z]
   have e : asK n.op 0 = 3 := by rw [o]; rfl
   rw [if_neg (by decide), if_pos rfl, e]
   simp only [zar, zaf, zaO, List.append_nil]
   rfl
  ·obtain ⟨fa, fb, fc⟩ := fr11 o
   rw [fa, fb, fc, zeA o, z]
   have e : asK n.op 0 = 3 := by rw [o]; rfl
   rw [if_neg (by decide), if_pos rfl, e]
   simp only [zar, zaf, zaO, List.append_nil]
   rfl
  ·obtain ⟨fa, fb, fc⟩ := fr12 o
   rw [fa, fb, fc, zeB o, z]
   have e : asK n.op 0 = 2 := by rw [o]; rfl
   rw [if_neg (by decide), if_pos rfl, e]
   simp only [zar, zaf, zaO, List.append_nil]
   rfl
  ·obtain ⟨fa, fb, fc⟩ := fr13 o
   rw [fa, fb, fc, zeC o, z]
   have e : asK n.op 0 = 2 := by rw [o]; rfl
   rw [if_neg (by decide), if_pos rfl, e]
   simp only [zar, zaf, zaO, List.append_nil]
   rfl
  ·obtain ⟨fa, fb, fc⟩ := fr14 o
   rw [fa, fb, fc, zeD o, z]
   rw [zqP o]
   have e : asK n.op 0 = 3 := by rw [o]; rfl
   rw [if_neg (by decide), if_pos rfl, e]
   simp only [zar, zaf, zaO, List.append_nil, zba]
   rfl
  ·obtain ⟨fa, fb, fc⟩ := fr15 o
   rw [fa, fb, fc, zeE o, z]
   rw [zqQ o]
   have e : asK n.op 0 = 3 := by rw [o]; rfl
   rw [if_neg (by decide), if_pos rfl, e]
   simp only [zar, zaf, zaO, List.append_nil, zba]
   rfl
  ·obtain ⟨fa, fb, fc⟩ := fr16 o
   rw [fa, fb, fc, zeF o, z]
   rw [zqR o]
   have e : asK n.op 0 = 3 := by rw [o]; rfl
   rw [if_neg (by decide), if_pos rfl, e]
   simp only [zar, zaf, zaO, List.append_nil, zba]
   rfl
  ·obtain ⟨fa, fb, fc⟩ := fr18 o
   rw [fa, fb, fc, zeH o, z]
   have e : asK n.op 0 = 0 := by rw [o]; rfl
   rw [if_neg (by decide), if_pos rfl, e]
   simp only [zar, zaf, zaO, List.append_nil]
   rfl
  ·obtain ⟨fa, fb, fc⟩ := fr19 o
   rw [fa, fb, fc, zeI o, z]
   simp only [if_neg (show ¬ (1 : Nat) = 0 from by decide), if_pos, zar, zaf, zaO, List.append_nil, zqN, zba]
   have e : asK n.op 0 = 0 := by rw [o]; rfl
   rw [e]
   simp only [List.append_assoc]
   rfl
  ·obtain ⟨fa, fb, fc⟩ := fr20 o
   rw [fa, fb, fc, zeJ o, z]
   have e : asK n.op 0 = 0 := by rw [o]; rfl
   rw [if_neg (by decide), if_pos rfl, e]
   simp only [zar, zaf, zaO, List.append_nil]
   rfl
  ·obtain ⟨fa, fb, fc⟩ := fr21 o
   rw [fa, fb, fc, zeK o, z]
   have e : asK n.op 0 = 0 := by rw [o]; rfl
   rw [if_neg (by decide), if_pos rfl, e]
   simp only [zar, zaf, zaO, List.append_nil]
   rfl
  ·obtain ⟨fa, fb, fc⟩ := fr22 o
   rw [fa, fb, fc, zeL o, z]
   rw [zqO o]
   have e : asK n.op 0 = 3 := by rw [o]; rfl
   rw [if_neg (by decide), if_pos rfl, e]
   simp only [zar, zaf, zaO, List.append_nil, zba]
   rfl
  ·obtain ⟨fa, fb, fc⟩ := fr23 o
   rw [fa, fb, fc, zeM o, z]
   rw [zqS o]
   have e : asK n.op 0 = 3 := by rw [o]; rfl
   rw [if_neg (by decide), if_pos rfl, e]
   simp only [zar, zaf, zaO, List.append_nil, zba]
   rfl
def kds (L : List Nd) (k : Nat) : List Nat := if T.arN (T.zde L k) = 0 then [] else if T.arN (T.zde L k) = 1 then [k - 1] else [(T.pt L (k - 1)).1 - 1, k - 1]
def kdT (L : List Nd) (n : Nd) (ks : List Nat) : Nat -> List UInt8
 | 0 => []
 | i + 1 => match ks[i]? with
  | some j => kdT L n ks i ++ ((if i = 0 then [] else (frB n).data.toList) ++ itT (zaq (asK n.op i) (enX L j)))
  | none => kdT L n ks i
theorem zd7 {L : List Nd} {n : Nd} {ks : List Nat} {i j : Nat} (h : ks[i]? = some j) : kdT L n ks (i + 1) = kdT L n ks i ++ ((if i = 0 then [] else (frB n).data.toList) ++ itT (zaq (asK n.op i) (enX L j))) := by
 rw [kdT, h]
theorem zeP (L : List Nd) (k : Nat) : (kds L k).length = T.arN (T.zde L k) := by
 have := T.zcg (T.zde L k)
 unfold kds
 split
 ·simp only [List.length_nil]; omega
 ·split
  ·simp only [List.length_singleton]; omega
  ·simp only [List.length_cons, List.length_nil]; omega
theorem zqT {L : List Nd} {k : Nat} {n : Nd} (hn : L[k]? = some n) (he : ∀ j, j <= k -> T.er L j = 0) : itT (enX L k).2 = (frA n).data.toList ++ (kdT L n (kds L k) (kds L k).length ++ (frC n).data.toList) := by
 have hok := T.zdB hn (he k (Nat.le_refl _))
 rw [zlv hn he]
 show itT (zaB n _ _) = _
 rw [zlx hok.al]
 congr 2
 have hop : T.zde L k = n.op := T.zeW hn
 have h2 := T.zcg n.op
 by_cases a0 : T.arN n.op = 0
 ·have hks : kds L k = [] := by unfold kds; rw [hop, if_pos a0]
  rw [hks, if_pos a0]; rfl
 by_cases a1 : T.arN n.op = 1
 ·have hks : kds L k = [k - 1] := by unfold kds; rw [hop, if_neg a0, if_pos a1]
  rw [hks, if_neg a0, if_pos a1, if_neg (by omega), if_pos a1]
  show _ = kdT L n [k - 1] (0 + 1)
  rw [zd7 (j := k - 1) rfl]
  rfl
 ·have hks : kds L k = [(T.pt L (k - 1)).1 - 1, k - 1] := by unfold kds; rw [hop, if_neg a0, if_neg a1]
  rw [hks, if_neg a0, if_neg a1, if_pos (by omega), if_neg a0]
  show _ = kdT L n [(T.pt L (k - 1)).1 - 1, k - 1] (1 + 1)
  rw [zd7 (j := k - 1) rfl, zd7 (j := (T.pt L (k - 1)).1 - 1) rfl]
  rfl
theorem en_hld {L : List Nd} {k : Nat} {n : Nd} (hn : L[k]? = some n) (he : ∀ j, j <= k -> T.er L j = 0) : (enX L k).1 = hld n.op := by rw [zlv hn he]
theorem zoB {L : List Nd} {k : Nat} {n : Nd} (hn : L[k]? = some n) (he : ∀ j, j <= k -> T.er L j = 0) : ∀ j ∈ kds L k, j < k := by
 have hk : k < L.length := (List.getElem?_eq_some_iff.1 hn).1
 have hok := T.zdB hn (he k (Nat.le_refl _))
 have har := hok.ar
 obtain ⟨r1, r2⟩ := zhW (Nat.le_of_lt hk) (fun j hj => he j (by omega))
 have hop : T.zde L k = n.op := T.zeW hn
 have h2 := T.zcg n.op
 intro j hj
 unfold kds at hj
 rw [hop] at hj
 by_cases a0 : T.arN n.op = 0
 ·rw [if_pos a0] at hj; cases hj
 rw [if_neg a0] at hj
 have q0 : (T.run L k)[0]? = some (T.run L k)[0] := List.getElem?_eq_getElem (by omega)
 have g0 := (r1 _ q0).2.2
 by_cases a1 : T.arN n.op = 1
 ·rw [if_pos a1, List.mem_singleton] at hj
  omega
 ·rw [if_neg a1] at hj
  have q1 : (T.run L k)[1]? = some (T.run L k)[1] := List.getElem?_eq_getElem (by omega)
  have g1 := (r2 _ q1).2.2
  have g2 := (T.zob (Nat.le_of_lt hk) (fun j hj => he j (by omega)) _ (List.getElem_mem (show 0 < (T.run L k).length by omega))).1
  have g3 := (r1 _ q0).2.1
  rw [(r1 _ q0).1] at g2 g3
  rcases List.mem_cons.1 hj with rfl | hj
  ·omega
  ·rw [List.mem_singleton] at hj; omega
theorem zqU {L : List Nd} {k : Nat} {n : Nd} (hn : L[k]? = some n) (he : ∀ j, j <= k -> T.er L j = 0) : kds L k = (((T.run L k).take (T.arN n.op)).reverse).map fun p => p.2.1 := by
 have hk : k < L.length := (List.getElem?_eq_some_iff.1 hn).1
 have hok := T.zdB hn (he k (Nat.le_refl _))
 have har := hok.ar
 obtain ⟨r1, r2⟩ := zhW (Nat.le_of_lt hk) (fun j hj => he j (by omega))
 have hop : T.zde L k = n.op := T.zeW hn
 have h2 := T.zcg n.op
 unfold kds
 rw [hop]
 cases hr : T.run L k with
 | nil =>
  rw [hr] at har
  rw [if_pos (by simpa using har)]
  simp
 | cons y r =>
  rw [hr] at har r1 r2
  have g0 := (r1 y rfl).2.1
  by_cases a0 : T.arN n.op = 0
  ·rw [if_pos a0, a0]; rfl
  rw [if_neg a0]
  by_cases a1 : T.arN n.op = 1
  ·rw [if_pos a1, a1]
   simp [g0]
  ·rw [if_neg a1, show T.arN n.op = 2 from by omega]
   cases r with
   | nil => simp at har; omega
   | cons x r =>
    have g1 := (r2 x rfl).2.1
    simp [g0, g1]
end Go.Proofs.YtnpifgcgjgddoaaGreatDoor.N
namespace Go.Proofs.YtnpifgcgjgddoaaGreatDoor.T
open Go.RowKit
theorem Tryz.info3 : (Tryz.prog.info? 3).map (fun i => (i.zero, i.size, i.bytes)) = some (some (.int .i64 0), 1, 8) := by kernel_rfl
def zha (xs : List Pt) : List Value := xs.map fun x => .int .i64 x.2.1
end Go.Proofs.YtnpifgcgjgddoaaGreatDoor.T
