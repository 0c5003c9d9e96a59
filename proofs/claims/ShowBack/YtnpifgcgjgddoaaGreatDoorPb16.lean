/- DERIVED. Plain mathematics and walks, laid together (16). -/
import Derived.Test.YtnpifgcgjgddoaaGreatDoorPb15
set_option maxRecDepth 100000
set_option maxHeartbeats 8000000
namespace Go.Proofs.YtnpifgcgjgddoaaGreatDoor.N
open Go.RowKit
theorem zdV {n : Nd} (h : T.alE n = 0) : (T.arN n.op = 0 /\ (n.op = 1 ∨ n.op = 2 ∨ n.op = 3 ∨ n.op = 4 ∨ n.op = 5 ∨ n.op = 6 ∨ n.op = 17)) ∨ (T.arN n.op = 2 /\ (n.op = 7 ∨ n.op = 8)) ∨ (T.arN n.op = 1 /\ (n.op = 9 ∨ n.op = 10 ∨ n.op = 11 ∨ n.op = 12 ∨ n.op = 13 ∨ n.op = 14 ∨ n.op = 15 ∨ n.op = 16 ∨ n.op = 18 ∨ n.op = 19 ∨ n.op = 20 ∨ n.op = 21 ∨ n.op = 22 ∨ n.op = 23)) := by
 have hr := op_rng h
 unfold T.arN T.ar
 rw [if_neg (by omega)]
 by_cases h1 : n.op <= 6 ∨ n.op = 17
 ·rw [if_pos h1]; exact .inl ⟨rfl, by omega⟩
 ·rw [if_neg h1]
  by_cases h2 : n.op = 7 ∨ n.op = 8
  ·rw [if_pos h2]; exact .inr (.inl ⟨rfl, h2⟩)
  ·rw [if_neg h2]; exact .inr (.inr ⟨rfl, by omega⟩)
theorem zqN {n : Nd} (h : T.alE n = 0) (ha : T.arN n.op = 0) (a b : Ent) (ht : Nat) : Rds (hld n.op) (zaj n a b) [n] ht := by
 rcases zdV h with ⟨_, o⟩ | ⟨q, _⟩ | ⟨q, _⟩
 ·rcases o with o | o | o | o | o | o | o
  ·exact rds_n1 h o a b ht
  ·exact rds_n2 h o a b ht
  ·exact rds_n3 h o a b ht
  ·exact rds_n4 h o a b ht
  ·exact rds_n5 h o a b ht
  ·exact rds_n6 h o a b ht
  ·exact zqx h o a b ht
 ·omega
 ·omega
theorem zqO {n : Nd} (h : T.alE n = 0) (ha : T.arN n.op = 1) {a : Ent} (b : Ent) {Q : List Nd} {ht H : Nat} (q : Rds a.1 a.2 Q ht) (hH : ht + 2 <= H) : Rds (hld n.op) (zaj n a b) (Q ++ [n]) H := by
 rcases zdV h with ⟨z, _⟩ | ⟨z, _⟩ | ⟨_, o⟩
 ·omega
 ·omega
 ·rcases o with o | o | o | o | o | o | o | o | o | o | o | o | o | o
  ·exact rds_n9 h o b q hH
  ·exact zqy h o b q hH
  ·exact zqz h o b q hH
  ·exact zqF h o b q hH
  ·exact zqG h o b q hH
  ·exact zqA h o b q hH
  ·exact zqB h o b q hH
  ·exact zqC h o b q hH
  ·exact zqH h o b q hH
  ·exact zqK h o b q hH
  ·exact zqI h o b q hH
  ·exact zqJ h o b q hH
  ·exact zqD h o b q hH
  ·exact zqE h o b q hH
theorem zqP {n : Nd} (h : T.alE n = 0) (ha : T.arN n.op = 2) {a b : Ent} {Q R : List Nd} {h1 h2 H : Nat} (q : Rds a.1 a.2 Q h1) (r : Rds b.1 b.2 R h2) (hH : h1 + 1 <= H ∨ (hld n.op <= a.1 /\ h1 <= H)) (hH2 : h2 + 1 <= H) : Rds (hld n.op) (zaj n a b) (Q ++ R ++ [n]) H := by
 rcases zdV h with ⟨z, _⟩ | ⟨_, o⟩ | ⟨z, _⟩
 ·omega
 ·rcases o with o | o
  ·refine rds_n7 h o q r ?_ hH2
   rw [o] at hH
   exact hH
  ·refine rds_n8 h o q r ?_ hH2
   rw [o] at hH
   exact hH
 ·omega
def e0 : Ent := (4, [])
def zeX (n : Nd) (st : List Ent) : List Ent := (hld n.op, zaj n (if T.arN n.op = 2 then (st[1]?).getD e0 else (st[0]?).getD e0) ((st[0]?).getD e0)) :: st.drop (T.arN n.op)
def shK (L : List Nd) : Nat -> List Ent
 | 0 => []
 | k + 1 => match L[k]? with
  | some n => zeX n (shK L k)
  | none => shK L k
def shI (L : List Nd) : List It := ((shK L L.length)[0]?.getD e0).2
theorem zct {L : List Nd} {k : Nat} {n : Nd} (h : L[k]? = some n) : shK L (k + 1) = zeX n (shK L k) := by
 rw [shK, h]
def StkI (L : List Nd) : List Ent -> List T.Pt -> List Nd -> Prop
 | [], [], P => P = []
 | x :: xs, p :: ps, P => ∃ A Q, P = A ++ Q /\ x.1 = hld (T.zcR L p.2.1) /\ Rds x.1 x.2 Q (2 * p.2.2) /\ StkI L xs ps A
 | _, _, _ => False
theorem zd9 {L : List Nd} {st : List Ent} {p : T.Pt} {ps : List T.Pt} {P : List Nd} (h : StkI L st (p :: ps) P) : ∃ x xs A Q, st = x :: xs /\ P = A ++ Q /\ x.1 = hld (T.zcR L p.2.1) /\ Rds x.1 x.2 Q (2 * p.2.2) /\ StkI L xs ps A := by
 cases st with
 | nil => exact h.elim
 | cons x xs =>
  obtain ⟨A, Q, h1, h2, h3, h4⟩ := h
  exact ⟨x, xs, A, Q, rfl, h1, h2, h3, h4⟩
theorem zqQ {L : List Nd} {st : List Ent} {P : List Nd} (h : StkI L st [] P) : st = [] /\ P = [] := by
 cases st with
 | nil => exact ⟨rfl, h⟩
 | cons x xs => exact h.elim
theorem zqR {L : List Nd} (he : ∀ j, j < L.length -> T.er L j = 0) : ∀ k, k <= L.length -> StkI L (shK L k) (T.run L k) (L.take k) := by
 intro k
 induction k with
 | zero => intro _; rw [List.take_zero]; exact (rfl : ([] : List Nd) = [])
 | succ k ih =>
  intro hk
  have hn : L[k]? = some L[k] := List.getElem?_eq_getElem (by omega)
  generalize L[k] = n at hn
  have hok := T.zeM hn (he k (by omega))
  have i := ih (by omega)
  have ho := T.zeo hn
  have hpl : (T.pt L k).2.1 = k := T.zfr L k _ _
  have htk : L.take (k + 1) = L.take k ++ [n] := by rw [List.take_add_one, hn]; rfl
  have har := hok.ar
  rw [zct hn, T.zco, ho, htk]
  rcases Nat.lt_or_ge (T.arN n.op) 1 with h0 | h0
  ·have h0 : T.arN n.op = 0 := by omega
   unfold zeX
   rw [h0]
   exact ⟨L.take k, [n], rfl, by rw [hpl, ho], zqN hok.al h0 _ _ _, i⟩
  ·rcases Nat.lt_or_ge (T.arN n.op) 2 with h1 | h1
   ·have h1 : T.arN n.op = 1 := by omega
    cases hr : T.run L k with
    | nil => rw [hr, h1] at har; simp at har
    | cons p ps =>
     rw [hr] at i
     obtain ⟨x, xs, A, Q, e1, e2, e3, e4, e5⟩ := zd9 i
     have hh : (T.pt L k).2.2 = max 1 (p.2.2 + 1) := by
      unfold T.pt T.mk
      rw [ho, h1, hr]
      rfl
     rw [e1, e2]
     unfold zeX
     rw [h1]
     refine ⟨A, Q ++ [n], by rw [List.append_assoc], by rw [hpl, ho], ?_, e5⟩
     rw [if_neg (by omega)]
     exact zqO hok.al h1 _ e4 (by rw [hh]; omega)
   ·have h2 : T.arN n.op = 2 := by have := T.zb5 n.op; omega
    cases hr : T.run L k with
    | nil => rw [hr, h2] at har; simp at har
    | cons p ps =>
     cases ps with
     | nil => rw [hr, h2] at har; simp at har
     | cons p2 ps =>
      rw [hr] at i
      obtain ⟨y, ys, A, R, e1, e2, e3, e4, e5⟩ := zd9 i
      obtain ⟨x, xs, B, Q, f1, f2, f3, f4, f5⟩ := zd9 e5
      have hh : (T.pt L k).2.2 = max (max 1 (if T.zcR L p2.2.1 = n.op then p2.2.2 else p2.2.2 + 1)) (p.2.2 + 1) := by
       unfold T.pt T.mk
       rw [ho, h2, hr]
       rfl
      rw [e1, e2, f1, f2]
      unfold zeX
      rw [h2]
      refine ⟨B, Q ++ R ++ [n], by simp only [List.append_assoc], by rw [hpl, ho], ?_, f5⟩
      rw [if_pos rfl]
      refine zqP hok.al h2 f4 e4 ?_ (by rw [hh]; omega)
      rw [hh]
      by_cases hs : T.zcR L p2.2.1 = n.op
      ·right
       rw [if_pos hs]
       exact ⟨by show hld n.op <= x.1; rw [f3, hs]; exact Nat.le_refl _, by omega⟩
      ·left
       rw [if_neg hs]
       omega
theorem zos {L : List Nd} (hr : T.Rt L) : ∃ h, Rds h (shI L) L 120 := by
 have h1 := zqR hr.each L.length (Nat.le_refl _)
 rw [List.take_length] at h1
 have h2 := hr.one
 have h3 := T.zjV (Nat.le_refl _) hr.each
 cases hq : T.run L L.length with
 | nil => rw [hq] at h2; simp at h2
 | cons p ps =>
  rw [hq] at h1 h2 h3
  have e : ps = [] := by
   rw [List.length_cons] at h2
   exact List.eq_nil_of_length_eq_zero (by omega)
  subst e
  obtain ⟨x, xs, A, Q, e1, e2, e3, e4, e5⟩ := zd9 h1
  obtain ⟨e6, e7⟩ := zqQ e5
  subst e7
  have hp := (h3 p (List.mem_cons_self)).2.2.1
  refine ⟨x.1, ?_⟩
  unfold shI
  rw [e1]
  rw [List.nil_append] at e2
  rw [e2]
  exact e4.high (by omega)
theorem zot {E : PE} : noS E E.l.length /\ bgn E E.l.length = false /\ kdA E E.l.length ≠ 7 /\ kdA E E.l.length ≠ 6 := by
 have h : kdA E E.l.length = 0 := zhX E
 exact ⟨zgI (by omega) (by omega) (by omega) (by omega) (by omega) (by omega) (by omega), zlq (by rw [h]; rfl) (by omega), by omega, by omega⟩
theorem zou {l : List Tk} {ts : List Tk} (h : l.map lkT = ts.map lkT) {E : PE} (hE : E.l = l) : Occ E 0 ts /\ ts.length = E.l.length := by
 constructor
 ·intro j t ht
  rw [hE, Nat.zero_add]
  exact lk_get h.symm ht
 ·have := congrArg List.length h
  rw [List.length_map, List.length_map] at this
  rw [hE, this]
theorem zov {L : List Nd} (hr : T.Rt L) {l : List Tk} (hl : l.map lkT = (zbu (shI L)).map lkT) : who (mkE l) L := by
 obtain ⟨h, hd⟩ := zos hr
 obtain ⟨o1, o2⟩ := zou hl (E := mkE l) rfl
 obtain ⟨q1, q2, q3, q4⟩ := zot (E := mkE l)
 have := (hd (mkE l) 0 0 rfl o1 (by rw [Nat.zero_add, o2]; exact q4) (by omega)).s0
 rw [Nat.zero_add, o2] at this
 unfold who
 rw [<- zjO, this.e q1 q2, zqs (Nat.le_refl _) q3, zdK]
def itX (x : It) : List UInt8 := match x with
 | none => [32]
 | some t => (tkX t).data.toList
def itT (l : List It) : List UInt8 := l.flatMap itX
theorem zaO (a b : List It) : itT (a ++ b) = itT a ++ itT b := List.flatMap_append
theorem zan (x : It) (l : List It) : itT (x :: l) = itX x ++ itT l := rfl
def pqK (a b : Int) : Bool := a == 16 || a == 8 || a == 9 || (a == 19 && !(b == 22) && !(b == 24) && !(b == 26)) || b == 17 || b == 20 || (decide (10 <= b) && decide (b <= 15))
def okI : List It -> Prop
 | [] => True
 | none :: r => okI r
 | some t :: r => (∀ u, r.head? = some (some u) -> pqK t.kd u.kd = true) /\ okI r
theorem zcM {a b : List It} (ha : okI a) (hb : okI b) (hj : ∀ t u, a.getLast? = some (some t) -> b.head? = some (some u) -> pqK t.kd u.kd = true) : okI (a ++ b) := by
 induction a with
 | nil => exact hb
 | cons x r ih =>
  have hj2 : ∀ t u, r.getLast? = some (some t) -> b.head? = some (some u) -> pqK t.kd u.kd = true := fun t u h1 h2 => hj t u (by rw [List.getLast?_cons, h1]; rfl) h2
  cases x with
  | none => exact ih ha hj2
  | some t =>
   refine ⟨fun u hu => ?_, ih ha.2 hj2⟩
   cases r with
   | nil => exact hj t u rfl hu
   | cons y r => exact ha.1 u hu
theorem zow {s : ByteArray} {i : Nat} {c k : Int} (h : chr s i = c) (hc : (c = 40 /\ k = 16) ∨ (c = 38 /\ k = 8) ∨ (c = 33 /\ k = 9) ∨ (c = 123 /\ k = 19 /\ chr s (i + 1) ≠ 58 /\ chr s (i + 1) ≠ 124 /\ chr s (i + 1) ≠ 126)) : i < s.size /\ zbT s i = i /\ zaz s i = .inl (sgT k i) := by
 have hlt : i < s.size := zaC (by omega)
 refine ⟨hlt, by rw [zb7, if_pos hlt, if_neg (by omega), if_neg (by omega)], ?_⟩
 unfold zaz
 rw [h]
 rcases hc with ⟨rfl, rfl⟩ | ⟨rfl, rfl⟩ | ⟨rfl, rfl⟩ | ⟨rfl, rfl, h1, h2, h3⟩
 ·rw [if_neg (by decide), if_neg (by decide), if_neg (by decide), if_neg (by decide), if_neg (by decide)]
  unfold zbk
  rw [za3, h]
  rfl
 ·rw [if_neg (by decide), if_neg (by decide), if_neg (by decide), if_neg (by decide), if_neg (by decide)]
  unfold zbk
  rw [za3, h]
  rfl
 ·rw [if_neg (by decide), if_neg (by decide), if_neg (by decide), if_neg (by decide), if_neg (by decide)]
  unfold zbk
  rw [za3, h]
  rfl
 ·rw [if_neg (by decide), if_neg (by decide), if_neg (by decide), if_neg (by decide), if_neg (by decide)]
  unfold zbk
  have e : sgC 123 (chr s (i + 1)) = (19, [123]) := by
   unfold sgC
   rw [if_neg (by decide), if_neg (by decide), if_neg (by decide), if_neg (by decide), if_neg (by decide), if_neg (by decide), if_neg (by decide), if_neg (by decide), if_neg (by decide), if_neg (by decide), if_neg (by decide), if_neg (by decide), if_neg (by decide), if_pos rfl, if_neg h1, if_neg h2, if_neg h3]
  rw [za3, h, e]
  rfl
theorem tk_sig {t : Tk} {c : UInt8} (hr : riF t = true) (hb : TkB t) (hx : tkX t = tx8 [c]) {k : Int} (hc : ((c.toNat : Int) = 40 /\ k = 16) ∨ ((c.toNat : Int) = 38 /\ k = 8) ∨ ((c.toNat : Int) = 33 /\ k = 9) ∨ ((c.toNat : Int) = 123 /\ k = 19)) (b : Nat) : lkT (sgT k b) = lkT t := by
 have h1 := (ziv hr hb).o
 rw [hx] at h1
 have h0 : chr (tx8 [c]) 0 = (c.toNat : Int) := by rw [zay]; rfl
 have h2 : chr (tx8 [c]) (0 + 1) = -1 := by rw [zay]; rfl
 have h3 := (zow (k := k) h0 (by rw [h2]; omega)).2.2
 rw [h1] at h3
 injection h3 with h4
 have a1 := congrArg Tk.kd h4
 have a2 := congrArg Tk.nn h4
 have a3 := congrArg Tk.tx h4
 have a4 := congrArg Tk.s0 h4
 have a5 := congrArg Tk.s1 h4
 have a6 := congrArg Tk.s2 h4
 have a7 := congrArg Tk.s3 h4
 obtain ⟨kd, nn, fr, en, tx, s0, s1, s2, s3⟩ := t
 unfold sgT at a1 a2 a3 a4 a5 a6 a7
 dsimp only at a1 a2 a3 a4 a5 a6 a7
 subst a1 a2 a3 a4 a5 a6 a7
 rfl
theorem zfW {t : Tk} (h : t.kd = 16 ∨ t.kd = 8 ∨ t.kd = 9 ∨ t.kd = 19) : tkX t = txO (sgn t.kd.toNat) := by
 unfold tkX
 rw [if_neg (by omega), if_neg (by omega), if_neg (by omega), if_neg (by omega), if_neg (by omega), if_neg (by omega), if_neg (by omega), if_neg (by omega), if_neg (by omega), if_neg (by omega), if_neg (by omega), if_neg (by omega)]
theorem znE {t : Tk} (hr : riF t = true) (hb : TkB t) {s : ByteArray} {b : Nat} (ha : Ag (tkX t) 0 s b (tkX t).size) (he : zd0 (chr s (b + (tkX t).size)) = true ∨ t.kd = 16 ∨ t.kd = 8 ∨ t.kd = 9 ∨ (t.kd = 19 /\ chr s (b + (tkX t).size) ≠ 58 /\ chr s (b + (tkX t).size) ≠ 124 /\ chr s (b + (tkX t).size) ≠ 126)) : 0 < (tkX t).size /\ zbT s b = b /\ b < s.size /\ b + (tkX t).size <= s.size /\ ∃ u, zaz s b = .inl u /\ lkT u = lkT t /\ u.en = (b + (tkX t).size : Nat) := by
 by_cases hst : zd0 (chr s (b + (tkX t).size)) = true
 ·obtain ⟨h1, h2, h3, h4, h5⟩ := zgG hr hb ha hst
  exact ⟨h1, h2, h3, h4, _, h5, rfl, rfl⟩
 ·have he : t.kd = 16 ∨ t.kd = 8 ∨ t.kd = 9 ∨ (t.kd = 19 /\ chr s (b + (tkX t).size) ≠ 58 /\ chr s (b + (tkX t).size) ≠ 124 /\ chr s (b + (tkX t).size) ≠ 126) := by
   rcases he with q | q
   ·exact absurd q hst
   ·exact q
  have key : ∀ (c : UInt8) (k : Int), tkX t = tx8 [c] -> (((c.toNat : Int) = 40 /\ k = 16) ∨ ((c.toNat : Int) = 38 /\ k = 8) ∨ ((c.toNat : Int) = 33 /\ k = 9) ∨ ((c.toNat : Int) = 123 /\ k = 19)) -> (k = 19 -> chr s (b + (tkX t).size) ≠ 58 /\ chr s (b + (tkX t).size) ≠ 124 /\ chr s (b + (tkX t).size) ≠ 126) -> 0 < (tkX t).size /\ zbT s b = b /\ b < s.size /\ b + (tkX t).size <= s.size /\ ∃ u, zaz s b = .inl u /\ lkT u = lkT t /\ u.en = (b + (tkX t).size : Nat) := by
   intro c k hx hc h19
   have hz : (tkX t).size = 1 := by rw [hx]; rfl
   rw [hz] at ha h19 ⊢
   have h0 : chr s b = (c.toNat : Int) := by
    have := ha 0 (by omega)
    rw [hx] at this
    rw [Nat.add_zero, Nat.zero_add] at this
    rw [this, zay]
    rfl
   obtain ⟨g1, g2, g3⟩ := zow (k := k) h0 (by
    rcases hc with q | q | q | q
    ·exact .inl q
    ·exact .inr (.inl q)
    ·exact .inr (.inr (.inl q))
    ·exact .inr (.inr (.inr ⟨q.1, q.2, h19 q.2⟩)))
   exact ⟨by omega, g2, g1, by omega, _, g3, tk_sig hr hb hx hc b, rfl⟩
  rcases he with q | q | q | ⟨q, q2⟩
  ·exact key 40 16 (by rw [zfW (.inl q), q]; rfl) (by decide) (fun z => absurd z (by decide))
  ·exact key 38 8 (by rw [zfW (.inr (.inl q)), q]; rfl) (by decide) (fun z => absurd z (by decide))
  ·exact key 33 9 (by rw [zfW (.inr (.inr (.inl q))), q]; rfl) (by decide) (fun z => absurd z (by decide))
  ·exact key 123 19 (by rw [zfW (.inr (.inr (.inr q))), q]; rfl) (by decide) (fun _ => q2)
theorem hcat (c : UInt8) (r : List UInt8) (m : List UInt8) : zd0 (chL ((⟨(c :: r).toArray⟩ ++ txO m : ByteArray).data.toList) 0) = zd0 (c.toNat : Int) := by
 rw [show (⟨(c :: r).toArray⟩ ++ txO m : ByteArray) = ⟨((c :: r) ++ m).toArray⟩ from by apply ByteArray.ext; simp [txO]]
 rfl
theorem zlE {u : Tk} (hk : u.kd = 17 ∨ u.kd = 20 ∨ u.kd = 10 ∨ u.kd = 11 ∨ u.kd = 12 ∨ u.kd = 13 ∨ u.kd = 14 ∨ u.kd = 15) : zd0 (chL (tkX u).data.toList 0) = true := by
 rcases hk with q | q | q | q | q | q | q | q
 ·unfold tkX
  rw [if_neg (by omega), if_neg (by omega), if_neg (by omega), if_neg (by omega), if_neg (by omega), if_neg (by omega), if_neg (by omega), if_neg (by omega), if_neg (by omega), if_neg (by omega), if_neg (by omega), if_neg (by omega), q]
  rfl
 ·unfold tkX
  rw [if_neg (by omega), if_neg (by omega), if_neg (by omega), if_neg (by omega), if_neg (by omega), if_neg (by omega), if_neg (by omega), if_neg (by omega), if_neg (by omega), if_neg (by omega), if_neg (by omega), if_neg (by omega), q]
  rfl
 ·unfold tkX
  rw [if_neg (by omega), if_neg (by omega), if_neg (by omega), if_neg (by omega), if_neg (by omega), if_neg (by omega), if_neg (by omega), if_neg (by omega), if_neg (by omega), if_neg (by omega), if_neg (by omega), if_neg (by omega), q]
  rfl
 ·unfold tkX
  rw [if_neg (by omega), if_neg (by omega), if_neg (by omega), if_neg (by omega), if_neg (by omega), if_neg (by omega), if_neg (by omega), if_neg (by omega), if_neg (by omega), if_neg (by omega), if_neg (by omega), if_neg (by omega), q]
  rfl
 ·unfold tkX
  rw [if_neg (by omega), if_neg (by omega), if_neg (by omega), if_neg (by omega), if_neg (by omega), if_neg (by omega), if_neg (by omega), if_neg (by omega), if_neg (by omega), if_neg (by omega), if_neg (by omega), if_neg (by omega), q]
  rfl
 ·unfold tkX
  rw [if_neg (by omega), if_neg (by omega), if_neg (by omega), if_neg (by omega), if_neg (by omega), if_neg (by omega), if_neg (by omega), if_pos q]
  exact hcat _ _ _
 ·unfold tkX
  rw [if_neg (by omega), if_neg (by omega), if_neg (by omega), if_neg (by omega), if_neg (by omega), if_neg (by omega), if_neg (by omega), if_neg (by omega), if_pos q]
  exact hcat _ _ _
 ·unfold tkX
  rw [if_neg (by omega), if_neg (by omega), if_neg (by omega), if_neg (by omega), if_neg (by omega), if_neg (by omega), if_neg (by omega), if_neg (by omega), if_neg (by omega), if_pos q]
  exact hcat _ _ _
theorem chr_tk (t : Tk) (i : Nat) : chr (tkX t) i = chL (tkX t).data.toList i := by
 rw [<- zay]
theorem fst_op {u : Tk} (hr : riF u = true) (hb : TkB u) (hk : u.kd ≠ 22 /\ u.kd ≠ 24 /\ u.kd ≠ 26) : chL (tkX u).data.toList 0 ≠ 58 /\ chL (tkX u).data.toList 0 ≠ 124 /\ chL (tkX u).data.toList 0 ≠ 126 := by
 have h1 := (ziv hr hb).o
 rw [<- chr_tk]
 have key : ∀ c : Int, (c = 58 ∨ c = 124 ∨ c = 126) -> chr (tkX u) 0 = c -> False := by
  intro c hc h0
  rw [zfg h0 (by rcases hc with rfl | rfl | rfl <;> rfl) (by rcases hc with rfl | rfl | rfl <;> rfl) (by omega) (by omega) (by omega)] at h1
  unfold zbk at h1
  rw [za3, h0] at h1
  generalize chr (tkX u) (0 + 1) = c1 at h1
  have hs : (sgC c c1).1 = 0 ∨ (sgC c c1).1 = 22 ∨ (sgC c c1).1 = 24 ∨ (sgC c c1).1 = 26 := by
   unfold sgC
   rcases hc with rfl | rfl | rfl
   ·simp only [show ¬ (58 : Int) = 37 by decide, show ¬ (58 : Int) = 94 by decide, show ¬ (58 : Int) = 60 by decide, show ¬ (58 : Int) = 45 by decide, show ¬ (58 : Int) = 47 by decide, show ¬ (58 : Int) = 38 by decide, show ¬ (58 : Int) = 33 by decide, show ¬ (58 : Int) = 63 by decide, show ¬ (58 : Int) = 42 by decide, show ¬ (58 : Int) = 43 by decide, show ¬ (58 : Int) = 40 by decide, show ¬ (58 : Int) = 41 by decide, show ¬ (58 : Int) = 46 by decide, show ¬ (58 : Int) = 123 by decide, if_false, if_true]
    split <;> simp
   ·simp only [show ¬ (124 : Int) = 37 by decide, show ¬ (124 : Int) = 94 by decide, show ¬ (124 : Int) = 60 by decide, show ¬ (124 : Int) = 45 by decide, show ¬ (124 : Int) = 47 by decide, show ¬ (124 : Int) = 38 by decide, show ¬ (124 : Int) = 33 by decide, show ¬ (124 : Int) = 63 by decide, show ¬ (124 : Int) = 42 by decide, show ¬ (124 : Int) = 43 by decide, show ¬ (124 : Int) = 40 by decide, show ¬ (124 : Int) = 41 by decide, show ¬ (124 : Int) = 46 by decide, show ¬ (124 : Int) = 123 by decide, show ¬ (124 : Int) = 58 by decide, if_false, if_true]
    split <;> simp
   ·simp only [show ¬ (126 : Int) = 37 by decide, show ¬ (126 : Int) = 94 by decide, show ¬ (126 : Int) = 60 by decide, show ¬ (126 : Int) = 45 by decide, show ¬ (126 : Int) = 47 by decide, show ¬ (126 : Int) = 38 by decide, show ¬ (126 : Int) = 33 by decide, show ¬ (126 : Int) = 63 by decide, show ¬ (126 : Int) = 42 by decide, show ¬ (126 : Int) = 43 by decide, show ¬ (126 : Int) = 40 by decide, show ¬ (126 : Int) = 41 by decide, show ¬ (126 : Int) = 46 by decide, show ¬ (126 : Int) = 123 by decide, show ¬ (126 : Int) = 58 by decide, show ¬ (126 : Int) = 124 by decide, if_false, if_true]
    split <;> simp
  generalize sgC c c1 = z at *
  rcases hs with q | q | q | q
  ·rw [if_pos q] at h1; cases h1
  ·rw [if_neg (by omega), if_neg (by omega), if_neg (by omega)] at h1
   injection h1 with h2
   have := congrArg Tk.kd h2
   dsimp only at this
   omega
  ·rw [if_neg (by omega), if_neg (by omega), if_neg (by omega)] at h1
   injection h1 with h2
   have := congrArg Tk.kd h2
   dsimp only at this
   omega
  ·rw [if_neg (by omega), if_neg (by omega), if_neg (by omega)] at h1
   injection h1 with h2
   have := congrArg Tk.kd h2
   dsimp only at this
   omega
 exact ⟨fun e => key 58 (by omega) e, fun e => key 124 (by omega) e, fun e => key 126 (by omega) e⟩
theorem zlF : ∀ (its : List It), okI its -> (∀ t ∈ zbu its, riF t = true /\ TkB t) -> ∀ (p q : List UInt8) (M : List Tk), (∀ t, its.getLast? = some (some t) -> zd0 (chL q 0) = true) -> Chn (tx8 (p ++ (itT its ++ q))) (p.length + (itT its).length) M -> ∃ l2, Chn (tx8 (p ++ (itT its ++ q))) p.length (l2 ++ M) /\ l2.map lkT = (zbu its).map lkT := by
 intro its
 induction its with
 | nil => intro _ _ p q M _ hM; exact ⟨[], hM, rfl⟩
 | cons x r ih =>
  intro hok hr p q M hq hM
  have hq2 : ∀ t, r.getLast? = some (some t) -> zd0 (chL q 0) = true := fun t ht => hq t (by rw [List.getLast?_cons, ht]; rfl)
  have e1 : p ++ (itT (x :: r) ++ q) = (p ++ itX x) ++ (itT r ++ q) := by rw [zan]; simp only [List.append_assoc]
  have e2 : p.length + (itT (x :: r)).length = (p ++ itX x).length + (itT r).length := by rw [zan]; simp only [List.length_append]; omega
  rw [e1, e2] at hM
  rw [e1]
  cases x with
  | none =>
   obtain ⟨l2, h1, h2⟩ := ih hok hr (p ++ itX none) q M hq2 hM
   refine ⟨l2, ?_, h2⟩
   have h0 : chr (tx8 (p ++ itX none ++ (itT r ++ q))) p.length = 32 := by
    rw [List.append_assoc, at0]; rfl
   refine zoq h0 (.inl rfl) ?_
   have : (p ++ itX none).length = p.length + 1 := by rw [List.length_append]; rfl
   rw [<- this]
   exact h1
  | some t =>
   have hrt := hr t (by unfold zbu; exact List.mem_filterMap.2 ⟨some t, List.mem_cons_self, rfl⟩)
   have hr2 : ∀ u ∈ zbu r, riF u = true /\ TkB u := fun u hu => hr u (by
    unfold zbu at hu ⊢
    rw [List.filterMap_cons]
    exact List.mem_cons_of_mem _ hu)
   obtain ⟨l2, h1, h2⟩ := ih hok.2 hr2 (p ++ itX (some t)) q M hq2 hM
   have hX : tkX t = tx8 (tkX t).data.toList := by apply ByteArray.ext; simp
   have hXs : (tkX t).size = (tkX t).data.toList.length := rfl
   have ha : Ag (tkX t) 0 (tx8 (p ++ itX (some t) ++ (itT r ++ q))) p.length (tkX t).size := by
    have := zk5 p (tkX t).data.toList (itT r ++ q)
    rw [<- hX, <- hXs] at this
    exact this
   have hnx : chr (tx8 (p ++ itX (some t) ++ (itT r ++ q))) (p.length + (tkX t).size) = chL (itT r ++ q) 0 := by
    have := at0 (p ++ itX (some t)) (itT r ++ q)
    rw [List.length_append] at this
    exact this
   have he : zd0 (chL (itT r ++ q) 0) = true ∨ t.kd = 16 ∨ t.kd = 8 ∨ t.kd = 9 ∨ (t.kd = 19 /\ chL (itT r ++ q) 0 ≠ 58 /\ chL (itT r ++ q) 0 ≠ 124 /\ chL (itT r ++ q) 0 ≠ 126) := by
    cases r with
    | nil => exact .inl (hq t rfl)
    | cons y r =>
     cases y with
     | none => exact .inl rfl
     | some u =>
      have hru := hr2 u (by unfold zbu; exact List.mem_filterMap.2 ⟨some u, List.mem_cons_self, rfl⟩)
      have hf : chL (itT (some u :: r) ++ q) 0 = chL (tkX u).data.toList 0 := by
       rw [zan, List.append_assoc]
       exact zir _ _ _ (ziv hru.1 hru.2).p
      rw [hf]
      have hp := hok.1 u rfl
      unfold pqK at hp
      simp only [Bool.or_eq_true, Bool.and_eq_true, beq_iff_eq, decide_eq_true_eq, Bool.not_eq_true', beq_eq_false_iff_ne] at hp
      rcases hp with (((((hp | hp) | hp) | hp) | hp) | hp) | hp
      ·exact .inr (.inl hp)
      ·exact .inr (.inr (.inl hp))
      ·exact .inr (.inr (.inr (.inl hp)))
      ·exact .inr (.inr (.inr (.inr ⟨hp.1.1.1, fst_op hru.1 hru.2 ⟨hp.1.1.2, hp.1.2, hp.2⟩⟩)))
      ·exact .inl (zlE (by omega))
      ·exact .inl (zlE (by omega))
      ·exact .inl (zlE (by omega))
   rw [<- hnx] at he
   obtain ⟨g1, g2, g3, g4, v, g5, g6, g7⟩ := znE hrt.1 hrt.2 ha he
   refine ⟨v :: l2, ⟨by rw [g2]; exact g3, by rw [g2]; exact g5, p.length + (tkX t).size, g7, by rw [g2]; omega, g4, ?_⟩, ?_⟩
   ·have : (p ++ itX (some t)).length = p.length + (tkX t).size := by rw [List.length_append]; rfl
    rw [<- this]
    exact h1
   ·rw [List.map_cons, h2, g6]
    rfl
def hdK (k : Int) : Bool := bgK k || k == 1
structure ShE (x : List It) : Prop where
 ok : okI x
 hd : ∃ t, x.head? = some (some t) /\ hdK t.kd = true
 ls : ∃ t, x.getLast? = some (some t)
 rt : ∀ t ∈ zbu x, Rgt t
structure NdW (n : Nd) : Prop where
 a : 0 <= n.s0 /\ n.s0 < 18446744073709551616
 b : 0 <= n.s1 /\ n.s1 < 18446744073709551616
 c : 0 <= n.s2 /\ n.s2 < 18446744073709551616
 d : 0 <= n.s3 /\ n.s3 < 18446744073709551616
theorem mem_tks {t : Tk} {l : List It} : t ∈ zbu l ↔ some t ∈ l := by
 unfold zbu
 rw [List.mem_filterMap]
 exact ⟨fun ⟨x, h1, h2⟩ => by rw [show x = some t from h2] at h1; exact h1, fun h => ⟨some t, h, rfl⟩⟩
theorem zb1 {k : Int} (h : sgK k = true) (h0 : ¬ k = 0) (h1 : ¬ (k = 13 ∨ k = 14 ∨ k = 15)) (h2 : ¬ k = 21) : Rgt ⟨k, 0, 0, 0, ⟨#[]⟩, 0, 0, 0, 0⟩ := Rgt.plain (zoo h h0 h1 h2) (by omega)
theorem zlG {s : ByteArray} (h : zeK s = true) : Rgt ⟨1, 0, 0, 0, s, 0, 0, 0, 0⟩ := Rgt.plain (zlb h) (by omega)
theorem rg_grp {s : ByteArray} (h : s = ⟨#[]⟩ ∨ zeK s = true) : Rgt ⟨21, 0, 0, 0, s, 0, 0, 0, 0⟩ := by
 rcases h with rfl | h
 ·exact Rgt.plain zhv (by omega)
 ·exact Rgt.plain (zon h) (by omega)
theorem zlH {s : ByteArray} (h : s.size <= 255) : Rgt ⟨2, 0, 0, 0, s, 0, 0, 0, 0⟩ := by
 refine Rgt.plain ?_ (by omega)
 unfold riF txF nbF seF gtK
 simp
 omega
theorem rg_set {a b c d : Int} (ha : 0 <= a /\ a < 18446744073709551616) (hb : 0 <= b /\ b < 18446744073709551616) (hc : 0 <= c /\ c < 18446744073709551616) (hd : 0 <= d /\ d < 18446744073709551616) : Rgt ⟨3, 0, 0, 0, ⟨#[]⟩, a, b, c, d⟩ := by
 refine ⟨?_, ⟨by show (0 : Int) < _; omega, ha.1, ha.2, hb, hc, hd⟩⟩
 have em : ((⟨#[]⟩ : ByteArray).toList == []) = true := by rw [ByteArray.toList_eq]; rfl
 unfold riF txF nbF seF gtK
 simp []
theorem ziD {k n : Int} (hk : k = 4 ∨ k = 13 ∨ k = 14 ∨ k = 15) (h0 : 0 <= n) (h1 : n <= 50) : Rgt ⟨k, n, 0, 0, ⟨#[]⟩, 0, 0, 0, 0⟩ := by
 refine Rgt.plain ?_ (by omega)
 have em : ((⟨#[]⟩ : ByteArray).toList == []) = true := by rw [ByteArray.toList_eq]; rfl
 unfold riF txF nbF seF gtK
 rcases hk with rfl | rfl | rfl | rfl <;> simp [] <;> omega
theorem znF {s : ByteArray} (h : T.nmB s = true) : zeK s = true := by
 have h : T.NmP s := by unfold T.nmB at h; exact @of_decide_eq_true _ (T.zmu _) h
 obtain ⟨h1, h2, h3, h4⟩ := h
 have hc : ∀ (j : Nat) (q : j < s.size), chr s j = (s[j].toNat : Int) := fun j q => zak q
 have hn : ∀ j, j < s.size -> nmB (chr s j) = true := fun j q => by
  have := h4 j q
  rw [<- hc j q] at this
  unfold T.nmC T.dgB T.ltB at this
  unfold nmB hdB dgB
  simp only [Bool.or_eq_true, Bool.and_eq_true, decide_eq_true_eq, beq_iff_eq] at this ⊢
  omega
 have hh : hdB (chr s 0) = true := by
  have a := h4 0 h1
  have b := h3 h1
  rw [<- hc 0 h1] at a b
  unfold T.nmC T.ltB at a
  rw [b] at a
  unfold hdB
  simp only [Bool.or_eq_true, Bool.and_eq_true, decide_eq_true_eq, beq_iff_eq, Bool.false_or] at a ⊢
  omega
 have he : spN nmB s 0 = s.size := zgB rfl (Nat.zero_le _) (fun k _ q => hn k q) (by rw [zau (by omega)]; rfl)
 unfold zeK
 rw [decide_eq_true h1, decide_eq_true h2, hh, he]
 simp
theorem zcu {t : Tk} (h : hdK t.kd = true) (hr : Rgt t) : ShE [some t] :=
 ⟨⟨(fun u hu => by cases hu), trivial⟩, ⟨t, rfl, h⟩, ⟨t, rfl⟩, fun u hu => by
  rw [mem_tks, List.mem_singleton] at hu
  cases hu
  exact hr⟩
theorem zcv {x : List It} (h : ShE x) {u : Tk} (hu : Rgt u) (hk : pqK 0 u.kd = true) : ShE (x ++ [some u]) := by
 obtain ⟨t, ht, hk1⟩ := h.hd
 refine ⟨zcM h.ok ⟨(fun v hv => by cases hv), trivial⟩ (fun a b _ hb => ?_), ⟨t, by rw [List.head?_append, ht]; rfl, hk1⟩, ⟨u, by rw [List.getLast?_append]; rfl⟩, fun v hv => ?_⟩
 ·cases hb
  unfold pqK at hk ⊢
  simp only [Bool.or_eq_true, Bool.and_eq_true, beq_iff_eq, decide_eq_true_eq, Bool.not_eq_true', beq_eq_false_iff_ne] at hk ⊢
  omega
 ·rw [mem_tks, List.mem_append, List.mem_singleton] at hv
  rcases hv with q | q
  ·exact h.rt v (mem_tks.2 q)
  ·cases q; exact hu
theorem zlI {x y m : List It} (h : ShE x) (g : ShE y) (hm : okI ([none] ++ m)) (hml : ∀ t, ([none] ++ m).getLast? ≠ some (some t)) (hr : ∀ t ∈ zbu m, Rgt t) : ShE (x ++ ([none] ++ m ++ y)) := by
 obtain ⟨t, ht, hk1⟩ := h.hd
 obtain ⟨l, hl⟩ := g.ls
 refine ⟨zcM h.ok (zcM hm g.ok (fun a b ha _ => absurd ha (hml a))) (fun a b _ hb => by cases hb), ⟨t, by rw [List.head?_append, ht]; rfl, hk1⟩, ⟨l, ?_⟩, fun v hv => ?_⟩
 ·rw [List.getLast?_append, List.getLast?_append, hl]
  rfl
 ·rw [mem_tks, List.mem_append, List.mem_append, List.mem_append] at hv
  rcases hv with q | (q | q) | q
  ·exact h.rt v (mem_tks.2 q)
  ·simp at q
  ·exact hr v (mem_tks.2 q)
  ·exact g.rt v (mem_tks.2 q)
theorem ziE {x : List It} (h : ShE x) {u : Tk} (hu : Rgt u) : ShE (x ++ [none, sgI 27, none, some u]) := by
 obtain ⟨t, ht, hk1⟩ := h.hd
 refine ⟨zcM h.ok ⟨(fun v hv => by cases hv), (fun v hv => by cases hv), trivial⟩ (fun a b _ hb => by cases hb), ⟨t, by rw [List.head?_append, ht]; rfl, hk1⟩, ⟨u, by rw [List.getLast?_append]; rfl⟩, fun v hv => ?_⟩
 rw [mem_tks, List.mem_append] at hv
 rcases hv with q | q
 ·exact h.rt v (mem_tks.2 q)
 ·simp only [List.mem_cons, List.not_mem_nil, or_false] at q
  rcases q with q | q | q | q
  ·cases q
  ·cases q; exact zb1 (by decide) (by decide) (by decide) (by decide)
  ·cases q
  ·cases q; exact hu
theorem zfX {x : List It} (h : ShE x) {o : Tk} (ho : Rgt o) (hk : hdK o.kd = true) (hp : o.kd = 16 ∨ o.kd = 8 ∨ o.kd = 9 ∨ o.kd = 19) : ShE ([some o] ++ x) := by
 obtain ⟨t, ht, hk1⟩ := h.hd
 obtain ⟨l, hl⟩ := h.ls
 refine ⟨zcM ⟨(fun v hv => by cases hv), trivial⟩ h.ok (fun a b ha hb => ?_), ⟨o, rfl, hk⟩, ⟨l, by rw [List.getLast?_append, hl]; rfl⟩, fun v hv => ?_⟩
 ·cases ha
  rw [ht] at hb
  cases hb
  have hb3 : t.kd ≠ 22 /\ t.kd ≠ 24 /\ t.kd ≠ 26 := by
   unfold hdK bgK at hk1
   simp only [Bool.or_eq_true, beq_iff_eq] at hk1
   omega
  unfold pqK
  simp only [Bool.or_eq_true, Bool.and_eq_true, beq_iff_eq, decide_eq_true_eq, Bool.not_eq_true', beq_eq_false_iff_ne]
  omega
 ·rw [mem_tks, List.mem_append, List.mem_singleton] at hv
  rcases hv with q | q
  ·cases q; exact ho
  ·exact h.rt v (mem_tks.2 q)
theorem zfY {x : List It} (h : ShE x) {o : Tk} (ho : Rgt o) (hk : hdK o.kd = true) : ShE ([some o, none] ++ x) := by
 obtain ⟨l, hl⟩ := h.ls
 refine ⟨zcM ⟨(fun v hv => by cases hv), trivial⟩ h.ok (fun a b ha hb => by cases ha), ⟨o, rfl, hk⟩, ⟨l, by rw [List.getLast?_append, hl]; rfl⟩, fun v hv => ?_⟩
 rw [mem_tks, List.mem_append] at hv
 rcases hv with q | q
 ·simp only [List.mem_cons, List.not_mem_nil, or_false] at q
  rcases q with q | q
  ·cases q; exact ho
  ·cases q
 ·exact h.rt v (mem_tks.2 q)
theorem zfZ {x : List It} (h : ShE x) {c : Tk} (hc : Rgt c) : ShE (x ++ [none, some c]) := by
 obtain ⟨t, ht, hk1⟩ := h.hd
 refine ⟨zcM h.ok ⟨(fun v hv => by cases hv), trivial⟩ (fun a b _ hb => by cases hb), ⟨t, by rw [List.head?_append, ht]; rfl, hk1⟩, ⟨c, by rw [List.getLast?_append]; rfl⟩, fun v hv => ?_⟩
 rw [mem_tks, List.mem_append] at hv
 rcases hv with q | q
 ·exact h.rt v (mem_tks.2 q)
 ·simp only [List.mem_cons, List.not_mem_nil, or_false] at q
  rcases q with q | q
  ·cases q
  ·cases q; exact hc
theorem zaM {x : Ent} (h : ShE x.2) (k : Nat) : ShE (zat k x) := by
 unfold zat
 split
 ·exact zfX (zcv h (u := ⟨17, 0, 0, 0, ⟨#[]⟩, 0, 0, 0, 0⟩) (zb1 (by decide) (by decide) (by decide) (by decide)) rfl) (zb1 (by decide) (by decide) (by decide) (by decide)) rfl (.inl rfl)
 ·exact h
theorem tx4 {n : Nd} (h : T.alE n = 0) (ho : n.op = 4) : 1 <= n.tx.size /\ n.tx.size <= 255 := by
 have := (zd1 h).2.1
 unfold T.txF at this
 rw [if_pos ho] at this
 exact of_decide_eq_true this
theorem tx6 {n : Nd} (h : T.alE n = 0) (ho : n.op = 6) : zeK n.tx = true := by
 have := (zd1 h).2.1
 unfold T.txF at this
 rw [if_neg (by omega), if_pos ho] at this
 exact znF this
theorem tx19 {n : Nd} (h : T.alE n = 0) (ho : n.op = 19) : n.tx = ⟨#[]⟩ ∨ zeK n.tx = true := by
 have := (zd1 h).2.1
 unfold T.txF at this
 rw [if_neg (by omega), if_neg (by omega), if_pos ho, Bool.or_eq_true] at this
 rcases this with q | q
 ·exact .inl (zgC (by have := of_decide_eq_true q; omega))
 ·exact .inr (znF q)
theorem tx22 {n : Nd} (h : T.alE n = 0) (ho : n.op = 22) : n.tx.size <= 255 := by
 have := (zd1 h).2.1
 unfold T.txF at this
 rw [if_neg (by omega), if_neg (by omega), if_neg (by omega), if_pos ho] at this
 unfold T.tmB at this
 split at this
 ·assumption
 ·cases this
theorem znG {n : Nd} (h : T.alE n = 0) (hw : NdW n) (a b : Ent) (ha : 1 <= T.arN n.op -> ShE a.2) (hb : T.arN n.op = 2 -> ShE b.2) : ShE (zaj n a b) := by
 rcases zdV h with ⟨z, o⟩ | ⟨z, o⟩ | ⟨z, o⟩
 ·rcases o with o | o | o | o | o | o | o
  ·rw [zlt o]
   exact zcu (t := ⟨29, 0, 0, 0, ⟨#[]⟩, 0, 0, 0, 0⟩) rfl (zb1 (by decide) (by decide) (by decide) (by decide))
  ·rw [zlu o]
   exact zcu (t := ⟨30, 0, 0, 0, ⟨#[]⟩, 0, 0, 0, 0⟩) rfl (zb1 (by decide) (by decide) (by decide) (by decide))
  ·rw [zlv o]
   exact zcu (t := ⟨18, 0, 0, 0, ⟨#[]⟩, 0, 0, 0, 0⟩) rfl (zb1 (by decide) (by decide) (by decide) (by decide))
  ·rw [zlw o]
   exact zcu (t := ⟨2, 0, 0, 0, n.tx, 0, 0, 0, 0⟩) rfl (zlH (by have := tx4 h o; omega))
  ·rw [zlx o]
   exact zcu (t := ⟨3, 0, 0, 0, ⟨#[]⟩, n.s0, n.s1, n.s2, n.s3⟩) rfl (rg_set hw.a hw.b hw.c hw.d)
  ·rw [zly o]
   exact zcu (t := ⟨1, 0, 0, 0, n.tx, 0, 0, 0, 0⟩) rfl (zlG (tx6 h o))
  ·rw [zhF o]
   exact zcv (x := [sgI 19]) (zcu (t := ⟨19, 0, 0, 0, ⟨#[]⟩, 0, 0, 0, 0⟩) rfl (zb1 (by decide) (by decide) (by decide) (by decide))) (u := ⟨20, 0, 0, 0, ⟨#[]⟩, 0, 0, 0, 0⟩) (zb1 (by decide) (by decide) (by decide) (by decide)) rfl
 ·rcases o with o | o
  ·rw [zlz o]
   exact zlI (m := []) (zaM (ha (by omega)) 1) (zaM (hb (by omega)) 2) trivial (fun t q => by cases q) (fun t q => by cases q)
  ·rw [zlA o]
   exact zlI (m := [sgI 7, none]) (zaM (ha (by omega)) 0) (zaM (hb (by omega)) 1) ⟨(fun v q => by cases q), trivial⟩ (fun t q => by cases q) (fun t q => by rw [List.mem_singleton.1 q]; exact (zb1 (by decide) (by decide) (by decide) (by decide)))
 ·rcases o with o | o | o | o | o | o | o | o | o | o | o | o | o | o
  ·rw [zlB o]
   exact zcv (zaM (ha (by omega)) 3) (u := ⟨11, 0, 0, 0, ⟨#[]⟩, 0, 0, 0, 0⟩) (zb1 (by decide) (by decide) (by decide) (by decide)) rfl
  ·rw [zhy o]
   exact zcv (zaM (ha (by omega)) 3) (u := ⟨12, 0, 0, 0, ⟨#[]⟩, 0, 0, 0, 0⟩) (zb1 (by decide) (by decide) (by decide) (by decide)) rfl
  ·rw [zhz o]
   exact zcv (zaM (ha (by omega)) 3) (u := ⟨10, 0, 0, 0, ⟨#[]⟩, 0, 0, 0, 0⟩) (zb1 (by decide) (by decide) (by decide) (by decide)) rfl
  ·rw [zhA o]
   exact zfX (zaM (ha (by omega)) 2) (o := ⟨8, 0, 0, 0, ⟨#[]⟩, 0, 0, 0, 0⟩) (zb1 (by decide) (by decide) (by decide) (by decide)) rfl (by decide)
  ·rw [zhB o]
   exact zfX (zaM (ha (by omega)) 2) (o := ⟨9, 0, 0, 0, ⟨#[]⟩, 0, 0, 0, 0⟩) (zb1 (by decide) (by decide) (by decide) (by decide)) rfl (by decide)
  ·rw [zhC o]
   exact zcv (zaM (ha (by omega)) 3) (u := ⟨13, n.nn, 0, 0, ⟨#[]⟩, 0, 0, 0, 0⟩) (ziD (by omega) (zjC h (by omega)).2.1 (zjC h (by omega)).2.2) rfl
  ·rw [zhD o]
   exact zcv (zaM (ha (by omega)) 3) (u := ⟨14, n.nn, 0, 0, ⟨#[]⟩, 0, 0, 0, 0⟩) (ziD (by omega) (zjC h (by omega)).2.1 (zjC h (by omega)).2.2) rfl
  ·rw [zhE o]
   exact zcv (zaM (ha (by omega)) 3) (u := ⟨15, n.nn, 0, 0, ⟨#[]⟩, 0, 0, 0, 0⟩) (ziD (by omega) (zjC h (by omega)).2.1 (zjC h (by omega)).2.2) rfl
  ·rw [zhG o]
   exact zfX (zcv (zaM (ha (by omega)) 0) (u := ⟨20, 0, 0, 0, ⟨#[]⟩, 0, 0, 0, 0⟩) (zb1 (by decide) (by decide) (by decide) (by decide)) rfl) (o := ⟨19, 0, 0, 0, ⟨#[]⟩, 0, 0, 0, 0⟩) (zb1 (by decide) (by decide) (by decide) (by decide)) rfl (by decide)
  ·rw [zhH o]
   exact zfY (zfZ (zaM (ha (by omega)) 0) (c := ⟨22, 0, 0, 0, ⟨#[]⟩, 0, 0, 0, 0⟩) (zb1 (by decide) (by decide) (by decide) (by decide))) (o := ⟨21, 0, 0, 0, n.tx, 0, 0, 0, 0⟩) (rg_grp (tx19 h o)) rfl
  ·rw [zhI o]
   exact zfY (zfZ (zaM (ha (by omega)) 0) (c := ⟨24, 0, 0, 0, ⟨#[]⟩, 0, 0, 0, 0⟩) (zb1 (by decide) (by decide) (by decide) (by decide))) (o := ⟨23, 0, 0, 0, ⟨#[]⟩, 0, 0, 0, 0⟩) (zb1 (by decide) (by decide) (by decide) (by decide)) rfl
  ·rw [zhJ o]
   exact zfY (zfZ (zaM (ha (by omega)) 0) (c := ⟨26, 0, 0, 0, ⟨#[]⟩, 0, 0, 0, 0⟩) (zb1 (by decide) (by decide) (by decide) (by decide))) (o := ⟨25, 0, 0, 0, ⟨#[]⟩, 0, 0, 0, 0⟩) (zb1 (by decide) (by decide) (by decide) (by decide)) rfl
  ·rw [zhK o]
   exact ziE (zaM (ha (by omega)) 3) (u := ⟨2, 0, 0, 0, n.tx, 0, 0, 0, 0⟩) (zlH (tx22 h o))
  ·rw [zhL o]
   exact ziE (zaM (ha (by omega)) 3) (u := ⟨4, n.nn, 0, 0, ⟨#[]⟩, 0, 0, 0, 0⟩) (ziD (by omega) (zjC h (by omega)).2.1 (zjC h (by omega)).2.2)
theorem zhM {L : List Nd} : ∀ k, k <= L.length -> (shK L k).length = (T.run L k).length := by
 intro k
 induction k with
 | zero => intro _; rfl
 | succ k ih =>
  intro hk
  have hn : L[k]? = some L[k] := List.getElem?_eq_getElem (by omega)
  rw [zct hn, T.zco, T.zeo hn]
  unfold zeX
  rw [List.length_cons, List.length_cons, List.length_drop, List.length_drop, ih (by omega)]
theorem zqS {L : List Nd} (he : ∀ j, j < L.length -> T.er L j = 0) (hw : ∀ n ∈ L, NdW n) : ∀ k, k <= L.length -> ∀ x ∈ shK L k, ShE x.2 := by
 intro k
 induction k with
 | zero => intro _ x hx; cases hx
 | succ k ih =>
  intro hk x hx
  have hn : L[k]? = some L[k] := List.getElem?_eq_getElem (by omega)
  have hm : L[k] ∈ L := List.getElem_mem (by omega)
  generalize L[k] = n at hn hm
  have hok := T.zeM hn (he k (by omega))
  have har := hok.ar
  rw [<- zhM k (by omega)] at har
  have i := ih (by omega)
  rw [zct hn] at hx
  have key : ∀ j, j < (shK L k).length -> ShE ((shK L k)[j]?.getD e0).2 := fun j hj => by
   rw [List.getElem?_eq_getElem hj]
   exact i _ (List.getElem_mem hj)
  unfold zeX at hx
  rcases List.mem_cons.1 hx with rfl | hx
  ·refine znG hok.al (hw n hm) _ _ (fun h1 => ?_) (fun h2 => key 0 (by omega))
   by_cases h2 : T.arN n.op = 2
   ·rw [if_pos h2]; exact key 1 (by omega)
   ·rw [if_neg h2]; exact key 0 (by omega)
  ·exact i x (List.mem_of_mem_drop hx)
theorem ziF {L : List Nd} (hr : T.Rt L) (hw : ∀ n ∈ L, NdW n) : ShE (shI L) := by
 have h1 := hr.one
 rw [<- zhM L.length (Nat.le_refl _)] at h1
 unfold shI
 rw [List.getElem?_eq_getElem (by omega)]
 exact zqS hr.each hw L.length (Nat.le_refl _) _ (List.getElem_mem (by omega))
def shX (L : List Nd) : ByteArray := txO (itT (shI L))
theorem sh_lex {L : List Nd} (hr : T.Rt L) (hw : ∀ n ∈ L, NdW n) (hl : (itT (shI L)).length <= 65536) : ∃ M, zcl (zaz (shX L)) (shX L) = .inl M /\ M.map lkT = (zbu (shI L)).map lkT := by
 have h := ziF hr hw
 have e : tx8 ([] ++ (itT (shI L) ++ [])) = shX L := by rw [List.nil_append, List.append_nil]; rfl
 obtain ⟨l2, h1, h2⟩ := zlF (shI L) h.ok (fun t ht => ⟨(h.rt t ht).r, (h.rt t ht).b⟩) [] [] [] (fun _ _ => by decide) (by
  rw [e]
  show zbT (shX L) (0 + (itT (shI L)).length) = (shX L).size
  rw [Nat.zero_add]
  exact zk8 (shX L))
 rw [e, List.append_nil] at h1
 exact ⟨l2, zff hl h1, h2⟩
theorem zqT {L : List Nd} (hr : T.Rt L) (hw : ∀ n ∈ L, NdW n) (hl : (itT (shI L)).length <= 65536) : paR (shX L) = .inl [(⟨#[]⟩, L)] := by
 obtain ⟨M, h1, h2⟩ := sh_lex hr hw hl
 have hc := hr.ck
 exact zqM h1 (zov hr h2) (by rw [hc]) (by have := hr.len; omega)
def agT (n : Nd) : Option Tk :=
 if n.op = 4 ∨ n.op = 22 then some ⟨2, 0, 0, 0, n.tx, 0, 0, 0, 0⟩ else if n.op = 5 then some ⟨3, 0, 0, 0, ⟨#[]⟩, n.s0, n.s1, n.s2, n.s3⟩
 else if n.op = 6 then some ⟨1, 0, 0, 0, n.tx, 0, 0, 0, 0⟩ else if n.op = 19 then (if n.tx.size = 0 then none else some ⟨1, 0, 0, 0, n.tx, 0, 0, 0, 0⟩)
 else if n.op = 14 ∨ n.op = 15 ∨ n.op = 16 ∨ n.op = 23 then some ⟨4, n.nn, 0, 0, ⟨#[]⟩, 0, 0, 0, 0⟩ else none
def enX (L : List Nd) (k : Nat) : Ent := (shK L (k + 1))[0]?.getD e0
theorem ziG {L : List Nd} : ∀ k, k <= L.length -> ∀ (i : Nat) (p : T.Pt), (T.run L k)[i]? = some p -> (shK L k)[i]? = some (enX L p.2.1) := by
 intro k
 induction k with
 | zero => intro _ i p h; simp [T.run] at h
 | succ k ih =>
  intro hk i p h
  have hn : L[k]? = some L[k] := List.getElem?_eq_getElem (by omega)
  rw [T.zco] at h
  cases i with
  | zero =>
   have hp : T.pt L k = p := by simpa using h
   rw [<- hp, show (T.pt L k).2.1 = k from T.zfr L k _ _]
   unfold enX
   rw [zct hn]
   rfl
  | succ i =>
   rw [List.getElem?_cons_succ, List.getElem?_drop, T.zeo hn] at h
   rw [zct hn]
   unfold zeX
   rw [List.getElem?_cons_succ, List.getElem?_drop]
   exact ih (by omega) _ _ h
theorem zhN {L : List Nd} {k : Nat} (hk : k <= L.length) (he : ∀ j, j < k -> T.er L j = 0) : (∀ p, (T.run L k)[0]? = some p -> p = T.pt L (k - 1) /\ p.2.1 = k - 1 /\ 1 <= k) /\ (∀ p, (T.run L k)[1]? = some p -> p = T.pt L ((T.pt L (k - 1)).1 - 1) /\ p.2.1 = (T.pt L (k - 1)).1 - 1 /\ 1 <= (T.pt L (k - 1)).1) := by
 have h := T.zjU L k hk he
 cases hr : T.run L k with
 | nil => exact ⟨(fun p q => by cases q), (fun p q => by cases q)⟩
 | cons y r =>
  rw [hr] at h
  obtain ⟨h1, h2, h3, h4⟩ := h
  have hy : y.2.1 = k - 1 := by omega
  have hy2 : y = T.pt L (k - 1) := by rw [<- hy]; exact h2
  refine ⟨fun p q => ?_, fun p q => ?_⟩
  ·have : y = p := by simpa using q
   subst this
   exact ⟨hy2, hy, by omega⟩
  ·rw [<- hy2]
   cases r with
   | nil => cases q
   | cons x r =>
    have : x = p := by simpa using q
    subst this
    obtain ⟨g1, g2, g3, g4⟩ := h4
    have hx : x.2.1 = y.1 - 1 := by omega
    exact ⟨by rw [<- hx]; exact g2, hx, by omega⟩
theorem zlJ {L : List Nd} {k : Nat} {n : Nd} (hn : L[k]? = some n) (he : ∀ j, j <= k -> T.er L j = 0) : enX L k = (hld n.op, zaj n (if T.arN n.op = 2 then enX L ((T.pt L (k - 1)).1 - 1) else if T.arN n.op = 1 then enX L (k - 1) else ((shK L k)[0]?).getD e0) (if T.arN n.op = 0 then ((shK L k)[0]?).getD e0 else enX L (k - 1))) := by
 have hk : k < L.length := (List.getElem?_eq_some_iff.1 hn).1
 have hok := T.zeM hn (he k (Nat.le_refl _))
 have har := hok.ar
 obtain ⟨r1, r2⟩ := zhN (Nat.le_of_lt hk) (fun j hj => he j (by omega))
 unfold enX
 rw [zct hn]
 unfold zeX
 rw [List.getElem?_cons_zero, Option.getD_some]
 have s0 : 1 <= T.arN n.op -> (shK L k)[0]? = some (enX L (k - 1)) := fun h => by
  have hq : (T.run L k)[0]? = some (T.run L k)[0] := List.getElem?_eq_getElem (by omega)
  have := ziG k (Nat.le_of_lt hk) 0 _ hq
  rw [(r1 _ hq).2.1] at this
  exact this
 have s1 : T.arN n.op = 2 -> (shK L k)[1]? = some (enX L ((T.pt L (k - 1)).1 - 1)) := fun h => by
  have hq : (T.run L k)[1]? = some (T.run L k)[1] := List.getElem?_eq_getElem (by omega)
  have := ziG k (Nat.le_of_lt hk) 1 _ hq
  rw [(r2 _ hq).2.1] at this
  exact this
 by_cases a2 : T.arN n.op = 2
 ·rw [if_pos a2, if_pos a2, if_neg (by omega), s0 (by omega), s1 a2]
  rfl
 ·rw [if_neg a2, if_neg a2]
  by_cases a1 : T.arN n.op = 1
  ·rw [if_pos a1, if_neg (by omega), s0 (by omega)]
   rfl
  ·have := T.zb5 n.op
   rw [if_neg a1, if_pos (by omega)]
theorem zlK {L : List Nd} (h : 0 < L.length) : shI L = (enX L (L.length - 1)).2 := by
 unfold shI enX
 rw [Nat.sub_add_cancel h]
theorem zaL : itT [] = [] := rfl
def za9 (n : Nd) : ByteArray := match agT n with
 | none => ⟨#[]⟩
 | some t => tkX t
def grS (s : ByteArray) : ByteArray := if s.size = 0 then ⟨#[123, 58]⟩ else ⟨#[123, 58]⟩ ++ s ++ ⟨#[58]⟩
def frA (n : Nd) : ByteArray := if n.op = 1 then ⟨#[37, 101]⟩ else if n.op = 2 then ⟨#[37, 102]⟩ else if n.op = 3 then ⟨#[46]⟩ else if n.op = 17 then ⟨#[123, 125]⟩ else if n.op = 12 then ⟨#[38]⟩ else if n.op = 13 then ⟨#[33]⟩ else
 if n.op = 18 then ⟨#[123]⟩ else if n.op = 19 then grS n.tx ++ ⟨#[32]⟩ else if n.op = 20 then ⟨#[123, 124, 32]⟩ else if n.op = 21 then ⟨#[123, 126, 32]⟩ else if n.op = 4 ∨ n.op = 5 ∨ n.op = 6 then za9 n else ⟨#[]⟩
def frB (n : Nd) : ByteArray := if n.op = 7 then ⟨#[32]⟩ else if n.op = 8 then ⟨#[32, 47, 32]⟩ else ⟨#[]⟩
def frC (n : Nd) : ByteArray := if n.op = 9 then ⟨#[42]⟩ else if n.op = 10 then ⟨#[43]⟩ else if n.op = 11 then ⟨#[63]⟩ else if n.op = 14 then ⟨#[94]⟩ ++ za9 n else if n.op = 15 then ⟨#[94, 43]⟩ ++ za9 n else
 if n.op = 16 then ⟨#[94, 45]⟩ ++ za9 n else if n.op = 22 ∨ n.op = 23 then ⟨#[32, 45, 62, 32]⟩ ++ za9 n else if n.op = 18 then ⟨#[125]⟩ else if n.op = 19 then ⟨#[32, 58, 125]⟩ else if n.op = 20 then ⟨#[32, 124, 125]⟩ else
 if n.op = 21 then ⟨#[32, 126, 125]⟩ else ⟨#[]⟩
def asK (op : Int) (i : Nat) : Nat := if hld op = 4 then 0 else hld op + i
theorem zbC (a b : ByteArray) : (a ++ b).data.toList = a.data.toList ++ b.data.toList := by rw [ByteArray.data_append, Array.toList_append]
theorem znH (t : Tk) : itX (some t) = (tkX t).data.toList := rfl
theorem zqU (s : ByteArray) : itX (txI 21 s) = (grS s).data.toList := by
 show (tkX ⟨21, 0, 0, 0, s, 0, 0, 0, 0⟩).data.toList = _
 have e : tkX ⟨21, 0, 0, 0, s, 0, 0, 0, 0⟩ = ⟨#[123, 58]⟩ ++ gnm s := rfl
 rw [e, zbC]
 unfold gnm grS
 by_cases h : s.size = 0
 ·rw [if_pos h, if_pos h]
  rfl
 ·rw [if_neg h, if_neg h, zbC, zbC, zbC]
  rfl
theorem fdx4 {n : Nd} (h : n.op = 4) : za9 n = Q.zae (Q.qT n.tx) := by
 have : agT n = some ⟨2, 0, 0, 0, n.tx, 0, 0, 0, 0⟩ := by unfold agT; rw [h]; rfl
 unfold za9
 rw [this]
 rfl
theorem zqV {n : Nd} (h : n.op = 22) : za9 n = Q.zae (Q.qT n.tx) := by
 have : agT n = some ⟨2, 0, 0, 0, n.tx, 0, 0, 0, 0⟩ := by unfold agT; rw [h]; rfl
 unfold za9
 rw [this]
 rfl
theorem fdx5 {n : Nd} (h : n.op = 5) : za9 n = txO (shT (mkS n.s0 n.s1 n.s2 n.s3)) := by
 have : agT n = some ⟨3, 0, 0, 0, ⟨#[]⟩, n.s0, n.s1, n.s2, n.s3⟩ := by unfold agT; rw [h]; rfl
 unfold za9
 rw [this]
 rfl
theorem fdx6 {n : Nd} (h : n.op = 6) : za9 n = n.tx := by
 have : agT n = some ⟨1, 0, 0, 0, n.tx, 0, 0, 0, 0⟩ := by unfold agT; rw [h]; rfl
 unfold za9
 rw [this]
 rfl
theorem zqW {n : Nd} (h : n.op = 14) : za9 n = txO (dgT 10 n.nn.toNat) := by
 have : agT n = some ⟨4, n.nn, 0, 0, ⟨#[]⟩, 0, 0, 0, 0⟩ := by unfold agT; rw [h]; rfl
 unfold za9
 rw [this]
 rfl
theorem zqX {n : Nd} (h : n.op = 15) : za9 n = txO (dgT 10 n.nn.toNat) := by
 have : agT n = some ⟨4, n.nn, 0, 0, ⟨#[]⟩, 0, 0, 0, 0⟩ := by unfold agT; rw [h]; rfl
 unfold za9
 rw [this]
 rfl
theorem zqY {n : Nd} (h : n.op = 16) : za9 n = txO (dgT 10 n.nn.toNat) := by
 have : agT n = some ⟨4, n.nn, 0, 0, ⟨#[]⟩, 0, 0, 0, 0⟩ := by unfold agT; rw [h]; rfl
 unfold za9
 rw [this]
 rfl
theorem zqZ {n : Nd} (h : n.op = 23) : za9 n = txO (dgT 10 n.nn.toNat) := by
 have : agT n = some ⟨4, n.nn, 0, 0, ⟨#[]⟩, 0, 0, 0, 0⟩ := by unfold agT; rw [h]; rfl
 unfold za9
 rw [this]
 rfl
theorem fdx19 {n : Nd} (h : n.op = 19) : za9 n = n.tx := by
 have e : agT n = if n.tx.size = 0 then none else some ⟨1, 0, 0, 0, n.tx, 0, 0, 0, 0⟩ := by unfold agT; rw [h]; rfl
 unfold za9
 rw [e]
 by_cases q : n.tx.size = 0
 ·rw [if_pos q]
  exact (zgC (by omega)).symm
 ·rw [if_neg q]
  rfl
theorem fdx1 {n : Nd} (h : n.op = 1) : za9 n = ⟨#[]⟩ := by
 have : agT n = none := by unfold agT; rw [h]; rfl
 unfold za9
 rw [this]
theorem fdx2 {n : Nd} (h : n.op = 2) : za9 n = ⟨#[]⟩ := by
 have : agT n = none := by unfold agT; rw [h]; rfl
 unfold za9
 rw [this]
theorem fdx3 {n : Nd} (h : n.op = 3) : za9 n = ⟨#[]⟩ := by
 have : agT n = none := by unfold agT; rw [h]; rfl
 unfold za9
 rw [this]
theorem fdx7 {n : Nd} (h : n.op = 7) : za9 n = ⟨#[]⟩ := by
 have : agT n = none := by unfold agT; rw [h]; rfl
 unfold za9
 rw [this]
theorem fdx8 {n : Nd} (h : n.op = 8) : za9 n = ⟨#[]⟩ := by
 have : agT n = none := by unfold agT; rw [h]; rfl
 unfold za9
 rw [this]
theorem fdx9 {n : Nd} (h : n.op = 9) : za9 n = ⟨#[]⟩ := by
 have : agT n = none := by unfold agT; rw [h]; rfl
 unfold za9
 rw [this]
theorem fdx10 {n : Nd} (h : n.op = 10) : za9 n = ⟨#[]⟩ := by
 have : agT n = none := by unfold agT; rw [h]; rfl
 unfold za9
 rw [this]
theorem fdx11 {n : Nd} (h : n.op = 11) : za9 n = ⟨#[]⟩ := by
 have : agT n = none := by unfold agT; rw [h]; rfl
 unfold za9
 rw [this]
theorem fdx12 {n : Nd} (h : n.op = 12) : za9 n = ⟨#[]⟩ := by
 have : agT n = none := by unfold agT; rw [h]; rfl
 unfold za9
 rw [this]
theorem fdx13 {n : Nd} (h : n.op = 13) : za9 n = ⟨#[]⟩ := by
 have : agT n = none := by unfold agT; rw [h]; rfl
 unfold za9
 rw [this]
theorem fdx17 {n : Nd} (h : n.op = 17) : za9 n = ⟨#[]⟩ := by
 have : agT n = none := by unfold agT; rw [h]; rfl
 unfold za9
 rw [this]
theorem fdx18 {n : Nd} (h : n.op = 18) : za9 n = ⟨#[]⟩ := by
 have : agT n = none := by unfold agT; rw [h]; rfl
 unfold za9
 rw [this]
theorem fdx20 {n : Nd} (h : n.op = 20) : za9 n = ⟨#[]⟩ := by
 have : agT n = none := by unfold agT; rw [h]; rfl
 unfold za9
 rw [this]
theorem fdx21 {n : Nd} (h : n.op = 21) : za9 n = ⟨#[]⟩ := by
 have : agT n = none := by unfold agT; rw [h]; rfl
 unfold za9
 rw [this]
theorem fr1 {n : Nd} (h : n.op = 1) : frA n = ⟨#[37, 101]⟩ /\ frB n = ⟨#[]⟩ /\ frC n = ⟨#[]⟩ := by
 refine ⟨?_, ?_, ?_⟩
 ·unfold frA; rw [h]; rfl
 ·unfold frB; rw [h]; rfl
 ·unfold frC; rw [h]; rfl
theorem fr2 {n : Nd} (h : n.op = 2) : frA n = ⟨#[37, 102]⟩ /\ frB n = ⟨#[]⟩ /\ frC n = ⟨#[]⟩ := by
 refine ⟨?_, ?_, ?_⟩
 ·unfold frA; rw [h]; rfl
 ·unfold frB; rw [h]; rfl
 ·unfold frC; rw [h]; rfl
theorem fr3 {n : Nd} (h : n.op = 3) : frA n = ⟨#[46]⟩ /\ frB n = ⟨#[]⟩ /\ frC n = ⟨#[]⟩ := by
 refine ⟨?_, ?_, ?_⟩
 ·unfold frA; rw [h]; rfl
 ·unfold frB; rw [h]; rfl
 ·unfold frC; rw [h]; rfl
theorem fr4 {n : Nd} (h : n.op = 4) : frA n = za9 n /\ frB n = ⟨#[]⟩ /\ frC n = ⟨#[]⟩ := by
 refine ⟨?_, ?_, ?_⟩
 ·unfold frA; rw [h]; rfl
 ·unfold frB; rw [h]; rfl
 ·unfold frC; rw [h]; rfl
theorem fr5 {n : Nd} (h : n.op = 5) : frA n = za9 n /\ frB n = ⟨#[]⟩ /\ frC n = ⟨#[]⟩ := by
 refine ⟨?_, ?_, ?_⟩
 ·unfold frA; rw [h]; rfl
 ·unfold frB; rw [h]; rfl
 ·unfold frC; rw [h]; rfl
theorem fr6 {n : Nd} (h : n.op = 6) : frA n = za9 n /\ frB n = ⟨#[]⟩ /\ frC n = ⟨#[]⟩ := by
 refine ⟨?_, ?_, ?_⟩
 ·unfold frA; rw [h]; rfl
 ·unfold frB; rw [h]; rfl
 ·unfold frC; rw [h]; rfl
theorem fr7 {n : Nd} (h : n.op = 7) : frA n = ⟨#[]⟩ /\ frB n = ⟨#[32]⟩ /\ frC n = ⟨#[]⟩ := by
 refine ⟨?_, ?_, ?_⟩
 ·unfold frA; rw [h]; rfl
 ·unfold frB; rw [h]; rfl
 ·unfold frC; rw [h]; rfl
theorem fr8 {n : Nd} (h : n.op = 8) : frA n = ⟨#[]⟩ /\ frB n = ⟨#[32, 47, 32]⟩ /\ frC n = ⟨#[]⟩ := by
 refine ⟨?_, ?_, ?_⟩
 ·unfold frA; rw [h]; rfl
 ·unfold frB; rw [h]; rfl
 ·unfold frC; rw [h]; rfl
theorem fr9 {n : Nd} (h : n.op = 9) : frA n = ⟨#[]⟩ /\ frB n = ⟨#[]⟩ /\ frC n = ⟨#[42]⟩ := by
 refine ⟨?_, ?_, ?_⟩
 ·unfold frA; rw [h]; rfl
 ·unfold frB; rw [h]; rfl
 ·unfold frC; rw [h]; rfl
theorem fr10 {n : Nd} (h : n.op = 10) : frA n = ⟨#[]⟩ /\ frB n = ⟨#[]⟩ /\ frC n = ⟨#[43]⟩ := by
 refine ⟨?_, ?_, ?_⟩
 ·unfold frA; rw [h]; rfl
 ·unfold frB; rw [h]; rfl
 ·unfold frC; rw [h]; rfl
theorem fr11 {n : Nd} (h : n.op = 11) : frA n = ⟨#[]⟩ /\ frB n = ⟨#[]⟩ /\ frC n = ⟨#[63]⟩ := by
 refine ⟨?_, ?_, ?_⟩
 ·unfold frA; rw [h]; rfl
 ·unfold frB; rw [h]; rfl
 ·unfold frC; rw [h]; rfl
theorem fr12 {n : Nd} (h : n.op = 12) : frA n = ⟨#[38]⟩ /\ frB n = ⟨#[]⟩ /\ frC n = ⟨#[]⟩ := by
 refine ⟨?_, ?_, ?_⟩
 ·unfold frA; rw [h]; rfl
 ·unfold frB; rw [h]; rfl
 ·unfold frC; rw [h]; rfl
theorem fr13 {n : Nd} (h : n.op = 13) : frA n = ⟨#[33]⟩ /\ frB n = ⟨#[]⟩ /\ frC n = ⟨#[]⟩ := by
 refine ⟨?_, ?_, ?_⟩
 ·unfold frA; rw [h]; rfl
 ·unfold frB; rw [h]; rfl
 ·unfold frC; rw [h]; rfl
theorem fr14 {n : Nd} (h : n.op = 14) : frA n = ⟨#[]⟩ /\ frB n = ⟨#[]⟩ /\ frC n = ⟨#[94]⟩ ++ za9 n := by
 refine ⟨?_, ?_, ?_⟩
 ·unfold frA; rw [h]; rfl
 ·unfold frB; rw [h]; rfl
 ·unfold frC; rw [h]; rfl
theorem fr15 {n : Nd} (h : n.op = 15) : frA n = ⟨#[]⟩ /\ frB n = ⟨#[]⟩ /\ frC n = ⟨#[94, 43]⟩ ++ za9 n := by
 refine ⟨?_, ?_, ?_⟩
 ·unfold frA; rw [h]; rfl
 ·unfold frB; rw [h]; rfl
 ·unfold frC; rw [h]; rfl
theorem fr16 {n : Nd} (h : n.op = 16) : frA n = ⟨#[]⟩ /\ frB n = ⟨#[]⟩ /\ frC n = ⟨#[94, 45]⟩ ++ za9 n := by
 refine ⟨?_, ?_, ?_⟩
 ·unfold frA; rw [h]; rfl
 ·unfold frB; rw [h]; rfl
 ·unfold frC; rw [h]; rfl
theorem fr17 {n : Nd} (h : n.op = 17) : frA n = ⟨#[123, 125]⟩ /\ frB n = ⟨#[]⟩ /\ frC n = ⟨#[]⟩ := by
 refine ⟨?_, ?_, ?_⟩
 ·unfold frA; rw [h]; rfl
 ·unfold frB; rw [h]; rfl
 ·unfold frC; rw [h]; rfl
theorem fr18 {n : Nd} (h : n.op = 18) : frA n = ⟨#[123]⟩ /\ frB n = ⟨#[]⟩ /\ frC n = ⟨#[125]⟩ := by
 refine ⟨?_, ?_, ?_⟩
 ·unfold frA; rw [h]; rfl
 ·unfold frB; rw [h]; rfl
 ·unfold frC; rw [h]; rfl
theorem fr19 {n : Nd} (h : n.op = 19) : frA n = grS n.tx ++ ⟨#[32]⟩ /\ frB n = ⟨#[]⟩ /\ frC n = ⟨#[32, 58, 125]⟩ := by
 refine ⟨?_, ?_, ?_⟩
 ·unfold frA; rw [h]; rfl
 ·unfold frB; rw [h]; rfl
 ·unfold frC; rw [h]; rfl
theorem fr20 {n : Nd} (h : n.op = 20) : frA n = ⟨#[123, 124, 32]⟩ /\ frB n = ⟨#[]⟩ /\ frC n = ⟨#[32, 124, 125]⟩ := by
 refine ⟨?_, ?_, ?_⟩
 ·unfold frA; rw [h]; rfl
 ·unfold frB; rw [h]; rfl
 ·unfold frC; rw [h]; rfl
theorem fr21 {n : Nd} (h : n.op = 21) : frA n = ⟨#[123, 126, 32]⟩ /\ frB n = ⟨#[]⟩ /\ frC n = ⟨#[32, 126, 125]⟩ := by
 refine ⟨?_, ?_, ?_⟩
 ·unfold frA; rw [h]; rfl
 ·unfold frB; rw [h]; rfl
 ·unfold frC; rw [h]; rfl
theorem fr22 {n : Nd} (h : n.op = 22) : frA n = ⟨#[]⟩ /\ frB n = ⟨#[]⟩ /\ frC n = ⟨#[32, 45, 62, 32]⟩ ++ za9 n := by
 refine ⟨?_, ?_, ?_⟩
 ·unfold frA; rw [h]; rfl
 ·unfold frB; rw [h]; rfl
 ·unfold frC; rw [h]; rfl
theorem fr23 {n : Nd} (h : n.op = 23) : frA n = ⟨#[]⟩ /\ frB n = ⟨#[]⟩ /\ frC n = ⟨#[32, 45, 62, 32]⟩ ++ za9 n := by
 refine ⟨?_, ?_, ?_⟩
 ·unfold frA; rw [h]; rfl
 ·unfold frB; rw [h]; rfl
 ·unfold frC; rw [h]; rfl
theorem zlL {n : Nd} (h : T.alE n = 0) (a b : Ent) : itT (zaj n a b) = (frA n).data.toList ++ ((if T.arN n.op = 0 then [] else if T.arN n.op = 1 then itT (zat (asK n.op 0) a) else itT (zat (asK n.op 0) a) ++ ((frB n).data.toList ++ itT (zat (asK n.op 1) b))) ++ (frC n).data.toList) := by
 rcases zdV h with ⟨z, o⟩ | ⟨z, o⟩ | ⟨z, o⟩
 ·rcases o with o | o | o | o | o | o | o
  ·obtain ⟨fa, fb, fc⟩ := fr1 o
   rw [fa, fb, fc, zlt o, z]
   rw [if_pos rfl, List.nil_append]
   simp only [zan, zaL, List.append_nil]
   rfl
  ·obtain ⟨fa, fb, fc⟩ := fr2 o
   rw [fa, fb, fc, zlu o, z]
   rw [if_pos rfl, List.nil_append]
   simp only [zan, zaL, List.append_nil]
   rfl
  ·obtain ⟨fa, fb, fc⟩ := fr3 o
   rw [fa, fb, fc, zlv o, z]
   rw [if_pos rfl, List.nil_append]
   simp only [zan, zaL, List.append_nil]
   rfl
  ·obtain ⟨fa, fb, fc⟩ := fr4 o
   rw [fa, fb, fc, zlw o, z]
   rw [fdx4 o]
   rw [if_pos rfl, List.nil_append]
   simp only [zan, zaL, List.append_nil]
   rfl
  ·obtain ⟨fa, fb, fc⟩ := fr5 o
   rw [fa, fb, fc, zlx o, z]
   rw [fdx5 o]
   rw [if_pos rfl, List.nil_append]
   simp only [zan, zaL, List.append_nil]
   rfl
  ·obtain ⟨fa, fb, fc⟩ := fr6 o
   rw [fa, fb, fc, zly o, z]
   rw [fdx6 o]
   rw [if_pos rfl, List.nil_append]
   simp only [zan, zaL, List.append_nil]
   rfl
  ·obtain ⟨fa, fb, fc⟩ := fr17 o
   rw [fa, fb, fc, zhF o, z]
   rw [if_pos rfl, List.nil_append]
   simp only [zan, zaL, List.append_nil]
   rfl
 ·rcases o with o | o
  ·obtain ⟨fa, fb, fc⟩ := fr7 o
   rw [fa, fb, fc, zlz o, z]
   have e : asK n.op 0 = 1 := by rw [o]; rfl
   have e1 : asK n.op 1 = 2 := by rw [o]; rfl
   rw [if_neg (by decide), if_neg (by decide), e, e1]
   simp only [zaO, zan, zaL, List.append_nil]
   rfl
  ·obtain ⟨fa, fb, fc⟩ := fr8 o
   rw [fa, fb, fc, zlA o, z]
   have e : asK n.op 0 = 0 := by rw [o]; rfl
   have e1 : asK n.op 1 = 1 := by rw [o]; rfl
   rw [if_neg (by decide), if_neg (by decide), e, e1]
   simp only [zaO, zan, zaL, List.append_nil]
   rfl
 ·rcases o with o | o | o | o | o | o | o | o | o | o | o | o | o | o
  ·obtain ⟨fa, fb, fc⟩ := fr9 o
   rw [fa, fb, fc, zlB o, z]
   have e : asK n.op 0 = 3 := by rw [o]; rfl
   rw [if_neg (by decide), if_pos rfl, e]
   simp only [zaO, zan, zaL, List.append_nil]
   rfl
  ·obtain ⟨fa, fb, fc⟩ := fr10 o
   rw [fa, fb, fc, zhy o, z]
   have e : asK n.op 0 = 3 := by rw [o]; rfl
   rw [if_neg (by decide), if_pos rfl, e]
   simp only [zaO, zan, zaL, List.append_nil]
   rfl
  ·obtain ⟨fa, fb, fc⟩ := fr11 o
   rw [fa, fb, fc, zhz o, z]
   have e : asK n.op 0 = 3 := by rw [o]; rfl
   rw [if_neg (by decide), if_pos rfl, e]
   simp only [zaO, zan, zaL, List.append_nil]
   rfl
  ·obtain ⟨fa, fb, fc⟩ := fr12 o
   rw [fa, fb, fc, zhA o, z]
   have e : asK n.op 0 = 2 := by rw [o]; rfl
   rw [if_neg (by decide), if_pos rfl, e]
   simp only [zaO, zan, zaL, List.append_nil]
   rfl
  ·obtain ⟨fa, fb, fc⟩ := fr13 o
   rw [fa, fb, fc, zhB o, z]
   have e : asK n.op 0 = 2 := by rw [o]; rfl
   rw [if_neg (by decide), if_pos rfl, e]
   simp only [zaO, zan, zaL, List.append_nil]
   rfl
  ·obtain ⟨fa, fb, fc⟩ := fr14 o
   rw [fa, fb, fc, zhC o, z]
   rw [zqW o]
   have e : asK n.op 0 = 3 := by rw [o]; rfl
   rw [if_neg (by decide), if_pos rfl, e]
   simp only [zaO, zan, zaL, List.append_nil, zbC]
   rfl
  ·obtain ⟨fa, fb, fc⟩ := fr15 o
   rw [fa, fb, fc, zhD o, z]
   rw [zqX o]
   have e : asK n.op 0 = 3 := by rw [o]; rfl
   rw [if_neg (by decide), if_pos rfl, e]
   simp only [zaO, zan, zaL, List.append_nil, zbC]
   rfl
  ·obtain ⟨fa, fb, fc⟩ := fr16 o
   rw [fa, fb, fc, zhE o, z]
   rw [zqY o]
   have e : asK n.op 0 = 3 := by rw [o]; rfl
   rw [if_neg (by decide), if_pos rfl, e]
   simp only [zaO, zan, zaL, List.append_nil, zbC]
   rfl
  ·obtain ⟨fa, fb, fc⟩ := fr18 o
   rw [fa, fb, fc, zhG o, z]
   have e : asK n.op 0 = 0 := by rw [o]; rfl
   rw [if_neg (by decide), if_pos rfl, e]
   simp only [zaO, zan, zaL, List.append_nil]
   rfl
  ·obtain ⟨fa, fb, fc⟩ := fr19 o
   rw [fa, fb, fc, zhH o, z]
   simp only [if_neg (show ¬ (1 : Nat) = 0 from by decide), if_pos, zaO, zan, zaL, List.append_nil, zqU, zbC]
   have e : asK n.op 0 = 0 := by rw [o]; rfl
   rw [e]
   simp only [List.append_assoc]
   rfl
  ·obtain ⟨fa, fb, fc⟩ := fr20 o
   rw [fa, fb, fc, zhI o, z]
   have e : asK n.op 0 = 0 := by rw [o]; rfl
   rw [if_neg (by decide), if_pos rfl, e]
   simp only [zaO, zan, zaL, List.append_nil]
   rfl
  ·obtain ⟨fa, fb, fc⟩ := fr21 o
   rw [fa, fb, fc, zhJ o, z]
   have e : asK n.op 0 = 0 := by rw [o]; rfl
   rw [if_neg (by decide), if_pos rfl, e]
   simp only [zaO, zan, zaL, List.append_nil]
   rfl
  ·obtain ⟨fa, fb, fc⟩ := fr22 o
   rw [fa, fb, fc, zhK o, z]
   rw [zqV o]
   have e : asK n.op 0 = 3 := by rw [o]; rfl
   rw [if_neg (by decide), if_pos rfl, e]
   simp only [zaO, zan, zaL, List.append_nil, zbC]
   rfl
  ·obtain ⟨fa, fb, fc⟩ := fr23 o
   rw [fa, fb, fc, zhL o, z]
   rw [zqZ o]
   have e : asK n.op 0 = 3 := by rw [o]; rfl
   rw [if_neg (by decide), if_pos rfl, e]
   simp only [zaO, zan, zaL, List.append_nil, zbC]
   rfl
def kds (L : List Nd) (k : Nat) : List Nat := if T.arN (T.zcR L k) = 0 then [] else if T.arN (T.zcR L k) = 1 then [k - 1] else [(T.pt L (k - 1)).1 - 1, k - 1]
def kdT (L : List Nd) (n : Nd) (ks : List Nat) : Nat -> List UInt8
 | 0 => []
 | i + 1 => match ks[i]? with
  | some j => kdT L n ks i ++ ((if i = 0 then [] else (frB n).data.toList) ++ itT (zat (asK n.op i) (enX L j)))
  | none => kdT L n ks i
theorem zea {L : List Nd} {n : Nd} {ks : List Nat} {i j : Nat} (h : ks[i]? = some j) : kdT L n ks (i + 1) = kdT L n ks i ++ ((if i = 0 then [] else (frB n).data.toList) ++ itT (zat (asK n.op i) (enX L j))) := by
 rw [kdT, h]
theorem zeG (L : List Nd) (k : Nat) : (kds L k).length = T.arN (T.zcR L k) := by
 have := T.zb5 (T.zcR L k)
 unfold kds
 split
 ·simp only [List.length_nil]; omega
 ·split
  ·simp only [List.length_singleton]; omega
  ·simp only [List.length_cons, List.length_nil]; omega
theorem zq0 {L : List Nd} {k : Nat} {n : Nd} (hn : L[k]? = some n) (he : ∀ j, j <= k -> T.er L j = 0) : itT (enX L k).2 = (frA n).data.toList ++ (kdT L n (kds L k) (kds L k).length ++ (frC n).data.toList) := by
 have hok := T.zeM hn (he k (Nat.le_refl _))
 rw [zlJ hn he]
 show itT (zaj n _ _) = _
 rw [zlL hok.al]
 congr 2
 have hop : T.zcR L k = n.op := T.zeo hn
 have h2 := T.zb5 n.op
 by_cases a0 : T.arN n.op = 0
 ·have hks : kds L k = [] := by unfold kds; rw [hop, if_pos a0]
  rw [hks, if_pos a0]; rfl
 by_cases a1 : T.arN n.op = 1
 ·have hks : kds L k = [k - 1] := by unfold kds; rw [hop, if_neg a0, if_pos a1]
  rw [hks, if_neg a0, if_pos a1, if_neg (by omega), if_pos a1]
  show _ = kdT L n [k - 1] (0 + 1)
  rw [zea (j := k - 1) rfl]
  rfl
 ·have hks : kds L k = [(T.pt L (k - 1)).1 - 1, k - 1] := by unfold kds; rw [hop, if_neg a0, if_neg a1]
  rw [hks, if_neg a0, if_neg a1, if_pos (by omega), if_neg a0]
  show _ = kdT L n [(T.pt L (k - 1)).1 - 1, k - 1] (1 + 1)
  rw [zea (j := k - 1) rfl, zea (j := (T.pt L (k - 1)).1 - 1) rfl]
  rfl
theorem en_hld {L : List Nd} {k : Nat} {n : Nd} (hn : L[k]? = some n) (he : ∀ j, j <= k -> T.er L j = 0) : (enX L k).1 = hld n.op := by rw [zlJ hn he]
theorem zox {L : List Nd} {k : Nat} {n : Nd} (hn : L[k]? = some n) (he : ∀ j, j <= k -> T.er L j = 0) : ∀ j ∈ kds L k, j < k := by
 have hk : k < L.length := (List.getElem?_eq_some_iff.1 hn).1
 have hok := T.zeM hn (he k (Nat.le_refl _))
 have har := hok.ar
 obtain ⟨r1, r2⟩ := zhN (Nat.le_of_lt hk) (fun j hj => he j (by omega))
 have hop : T.zcR L k = n.op := T.zeo hn
 have h2 := T.zb5 n.op
 intro j hj
 unfold kds at hj
 rw [hop] at hj
 by_cases a0 : T.arN n.op = 0
 ·rw [if_pos a0] at hj; cases hj
 rw [if_neg a0] at hj
 have q0 : (T.run L k)[0]? = some (T.run L k)[0] := List.getElem?_eq_getElem (by omega)
 have g0 := (r1 _ q0).2.2
 by_cases a1 : T.arN n.op = 1
 ·rw [if_pos a1, List.mem_singleton] at hj
  omega
 ·rw [if_neg a1] at hj
  have q1 : (T.run L k)[1]? = some (T.run L k)[1] := List.getElem?_eq_getElem (by omega)
  have g1 := (r2 _ q1).2.2
  have g2 := (T.zjV (Nat.le_of_lt hk) (fun j hj => he j (by omega)) _ (List.getElem_mem (show 0 < (T.run L k).length by omega))).1
  have g3 := (r1 _ q0).2.1
  rw [(r1 _ q0).1] at g2 g3
  rcases List.mem_cons.1 hj with rfl | hj
  ·omega
  ·rw [List.mem_singleton] at hj; omega
theorem zq1 {L : List Nd} {k : Nat} {n : Nd} (hn : L[k]? = some n) (he : ∀ j, j <= k -> T.er L j = 0) : kds L k = (((T.run L k).take (T.arN n.op)).reverse).map fun p => p.2.1 := by
 have hk : k < L.length := (List.getElem?_eq_some_iff.1 hn).1
 have hok := T.zeM hn (he k (Nat.le_refl _))
 have har := hok.ar
 obtain ⟨r1, r2⟩ := zhN (Nat.le_of_lt hk) (fun j hj => he j (by omega))
 have hop : T.zcR L k = n.op := T.zeo hn
 have h2 := T.zb5 n.op
 unfold kds
 rw [hop]
 cases hr : T.run L k with
 | nil =>
  rw [hr] at har
  rw [if_pos (by simpa using har)]
  simp
 | cons y r =>
  rw [hr] at har r1 r2
  have g0 := (r1 y rfl).2.1
  by_cases a0 : T.arN n.op = 0
  ·rw [if_pos a0, a0]; rfl
  rw [if_neg a0]
  by_cases a1 : T.arN n.op = 1
  ·rw [if_pos a1, a1]
   simp [g0]
  ·rw [if_neg a1, show T.arN n.op = 2 from by omega]
   cases r with
   | nil => simp at har; omega
   | cons x r =>
    have g1 := (r2 x rfl).2.1
    simp [g0, g1]
end Go.Proofs.YtnpifgcgjgddoaaGreatDoor.N
namespace Go.Proofs.YtnpifgcgjgddoaaGreatDoor.T
open Go.RowKit
theorem Tryz.info3 : (Tryz.prog.info? 3).map (fun i => (i.zero, i.size, i.bytes)) = some (some (.int .i64 0), 1, 8) := by kernel_rfl
def zgJ (xs : List Pt) : List Value := xs.map fun x => .int .i64 x.2.1
end Go.Proofs.YtnpifgcgjgddoaaGreatDoor.T
