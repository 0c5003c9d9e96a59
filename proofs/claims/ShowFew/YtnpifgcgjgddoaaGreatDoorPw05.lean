/- DERIVED. Plain mathematics and walks, laid together (5). -/
import Derived.Deep.RegionHeld3
import Derived.Deep.AppendLies
import Derived.Maps.Range
import Derived.OwnWalk
import Derived.Shelf.Abstract
import Derived.Laws.AppendOwnNone
import Derived.WalkKit
import Derived.Lib.Builder
import Derived.Lib.UnsafeStr
import Derived.Lib.AppendStr
import Derived.Lib.RuneBytes
import Derived.Lib.DecodeN
import Derived.Laws.RangeAny
import Derived.Lib.RuneCount
import Derived.Laws.Runes
import Derived.Lib.Strings
import Derived.Lib.Small
import Derived.Test.YtnpifgcgjgddoaaGreatDoorPw04
set_option maxRecDepth 100000
set_option maxHeartbeats 8000000
namespace Go.Proofs.YtnpifgcgjgddoaaGreatDoor.T
open Go.RowKit
theorem Below.grow {w w' : World} (hb : Below w.heap.size w w') (row : Option Nat) : w.grownBy w' row := ⟨hb.os, hb.tape, hb.output, hb.size, fun k hk _ => hb.block k hk⟩
theorem za2 {w w' : World} {base e size : Nat} {v : Value} {n : Nat} {xs : List Value} (h : w.ownsRow base e size v n xs) (hb : Below w.heap.size w w') : w'.ownsRow base e size v n xs := by
 refine h.kept (row := none) (Below.grow hb none) ?_
 cases h2 : v.ownBlock
 ·exact .inl rfl
 ·exact .inr (by simp)
theorem zj3 {w : World} {base e size g n cap : Nat} {xs : List Value} (h : w.ownsRow base e size (.slice (some ⟨g, 0, none⟩) n cap) n xs) {m : Nat} (hm : m <= n) : w.ownsRow base e size (.slice (some ⟨g, 0, none⟩) m cap) m (xs.take (m * size)) := by
 obtain ⟨h1, h2⟩ := h
 rcases h2 with ⟨h2, _⟩ | ⟨g', cap', cur, h3, h4, h5, h6, h7, h8, h9⟩
 ·cases h2
 ·cases h3
  have hmul : m * size <= n * size := Nat.mul_le_mul_right _ hm
  refine ⟨by rw [List.length_take]; omega, .inr ⟨g, cap, cur, rfl, h4, h5, by omega, h7, h8, ?_⟩⟩
  rw [<- h9, List.take_take]
  congr 1
  omega
structure Kp (X : Nat -> Prop) (w w' : World) : Prop where
 os : w'.os = w.os
 tape : w'.tape = w.tape
 output : w'.output = w.output
 size : w.heap.size <= w'.heap.size
 block : ∀ b, b < w.heap.size -> ¬ X b -> w'.heap[b]? = w.heap[b]?
theorem own_kp {w w' : World} {X : Nat -> Prop} {base e size : Nat} {v : Value} {n : Nat} {xs : List Value} (h : w.ownsRow base e size v n xs) (hk : Kp X w w') (hd : ∀ g, v.ownBlock = some g -> ¬ X g) : w'.ownsRow base e size v n xs := by
 refine ⟨h.1, ?_⟩
 rcases h.2 with hn | ⟨g, cap, cur, rfl, hb, hgg, rest⟩
 ·exact .inl hn
 ·refine .inr ⟨g, cap, cur, rfl, hb, ?_, rest⟩
  rw [hk.block g (Array.getElem?_eq_some_iff.1 hgg).1 (hd g rfl)]
  exact hgg
theorem zpi (l : List Pt) (j : Nat) (p : Pt) (h : l[j]? = some p) : ∀ i, i < 3 -> (ptc l)[j * 3 + i]? = (ptV p)[i]? := by
 induction l generalizing j with
 | nil => cases h
 | cons a l ih =>
  intro i hi
  have e : ptc (a :: l) = ptV a ++ ptc l := rfl
  rw [e]
  cases j with
  | zero =>
   cases h
   rw [Nat.zero_mul, Nat.zero_add, List.getElem?_append_left (by show i < 3; exact hi)]
  | succ j =>
   have h2 : l[j]? = some p := by simpa using h
   have e7 : (ptV a).length = 3 := rfl
   rw [List.getElem?_append_right (by rw [e7]; omega), e7, show (j + 1) * 3 + i - 3 = j * 3 + i from by omega]
   exact ih j h2 i hi
abbrev ptG (p : Pt) : Value := .agg #[.int .i64 p.1, .int .i64 p.2.1, .int .i64 p.2.2]
theorem info_parts {P : Program} {t : TypeId} {z : Option Value} {s b : Nat} (h : (P.info? t).map (fun i => (i.zero, i.size, i.bytes)) = some (z, s, b)) : ∃ i, P.info? t = some i /\ i.zero = z /\ i.size = s /\ i.bytes = b := by
 cases hi : P.info? t with
 | none => rw [hi] at h; cases h
 | some i => rw [hi] at h; simp only [Option.map_some, Option.some.injEq, Prod.mk.injEq] at h; exact ⟨i, rfl, h.1, h.2.1, h.2.2⟩
theorem Tryz.info59 : (Tryz.prog.info? 87).map (fun i => (i.zero, i.size, i.bytes)) = some (some (.agg #[.int .i64 0, .int .i64 0, .int .i64 0]), 3, 24) := by kernel_rfl
theorem zml {X : Nat -> Prop} {Bc : Nat} {w w4 wA : World} (h : Below Bc w w4) (hk : Kp X w4.drew wA) (hx : ∀ b, X b -> Bc <= b) (hB : Bc <= w4.heap.size) : Below Bc w wA :=
 ⟨hk.os.trans h.drew.os, hk.tape.trans h.drew.tape, hk.output.trans h.drew.output, Nat.le_trans h.size hk.size, fun b hb => (hk.block b (Nat.lt_of_lt_of_le hb hB) (fun q => by have := hx b q; omega)).trans (h.block b hb)⟩
theorem zmm {w : World} {base e size : Nat} {v : Value} {n : Nat} {xs : List Value} (h : w.ownsRow base e size v n xs) : w.drew.ownsRow base e size v n xs := za2 h ((Below.refl _ _).drew)
structure See (L : List Nd) (F : Nat) (caps : Array Value) (Bc B : Nat) (J : Nat -> (Nat -> Prop) -> World -> Prop) : Prop where
 kept : ∀ k X w w', J k X w -> w.heap.size <= w'.heap.size -> (∀ b, (b < B ∨ X b) -> w'.heap[b]? = w.heap[b]?) -> J k X w'
 far : ∀ k X w, J k X w -> ∀ b, X b -> Bc <= b /\ b < w.heap.size
 call : ∀ k X w A c, J k X w -> B <= w.heap.size -> k < L.length -> (∀ j, j <= k -> er L j = 0) -> RdP w A ((run L k).take (arN (zde L k))).reverse -> (∀ a, A = some a -> ¬ X a.block) →
  Calls Tryz.prog F (#[ptG (pt L k), .slice A (arN (zde L k)) c] ++ caps) w fun e w' => (∃ u, e = .returned u) /\ ∃ X', J (k + 1) X' w' /\ Kp X w w' /\ ∀ b, X' b -> X b ∨ w.heap.size <= b
structure AtT (L : List Nd) (J : Nat -> (Nat -> Prop) -> World -> Prop) (Bc : Nat) (w wr : World) (k : Nat) (X : Nat -> Prop) (v : Value) : Prop where
 o : wr.ownsRow w.heap.size 87 3 v (run L k).length (ptc (run L k).reverse)
 j : J k X wr
 d : ∀ g, v.ownBlock = some g -> ¬ X g
 b : Below Bc w wr
 e : ∀ j, j < k -> er L j = 0
theorem AtT.below {L : List Nd} {F : Nat} {caps : Array Value} {J : Nat -> (Nat -> Prop) -> World -> Prop} {Bc : Nat} {w wr w2 : World} {k : Nat} {X : Nat -> Prop} {v : Value} (h : AtT L J Bc w wr k X v) (hs : See L F caps Bc w.heap.size J) (hB : Bc <= w.heap.size) (hb : Below wr.heap.size wr w2) : AtT L J Bc w w2 k X v :=
 ⟨za2 h.o hb, hs.kept k X wr w2 h.j hb.size (fun b hx => hb.block b (by
  rcases hx with q | q
  ·exact Nat.lt_of_lt_of_le q h.b.size
  ·exact (hs.far _ _ _ h.j b q).2)), h.d, h.b.trans (hb.mono (Nat.le_trans hB h.b.size)), h.e⟩
theorem zhq (L : List Nd) (F : Nat) (caps : Array Value) (J : Nat -> (Nat -> Prop) -> World -> Prop) (Ap : Option Addr) (cp Bc : Nat) (hL : L.length <= 140737488355328) (hT : ∀ n ∈ L, n.tx.size <= 140737488355328) (w : World) (hB : Bc <= w.heap.size) (hp : RdN w Ap L) (hpb : L ≠ [] -> ∀ a, Ap = some a -> a.block < Bc) (he : ∀ args w, (callFunc F args).run Tryz.prog w = .ok (.enter F args) w) (hs : See L F caps Bc w.heap.size J) (X0 : Nat -> Prop) (h0 : J 0 X0 w) :
  Calls Tryz.prog 45 #[.slice Ap L.length cp, .func (.func F) #[] caps] w fun e w' => e = .returned (.tuple #[.int .i64 (ck L).1, .int .i64 (ck L).2]) /\ Below Bc w w' /\ ∃ k X, J k X w' /\ ((ck L).2 = 0 -> k = L.length) := by
 by_cases hlong : 2048 < L.length
 ·have HE : Hid (ck L = (0, 2)) := zpc hlong
  have z : (2048 : Int) < (L.length : Int) := by omega
  have HJ : Hid (J 0 X0 w) := h0
  clear hT hp hpb hs h0 he
  go_enter Tryz.func45, Tryz.ntmps45
  go_wp2_with fail
  go_ret2
  exact ⟨by rw [HE.out]; rfl, Below.refl _ _, 0, X0, HJ.out, fun q => by rw [HE.out] at q; cases q⟩
 have z : ¬ (2048 : Int) < (L.length : Int) := by omega
 have HS : Hid (See L F caps Bc w.heap.size J) := hs
 have HB : Hid (Bc <= w.heap.size) := hB
 have HP : Hid (RdN w Ap L) := hp
 have HPb : Hid (L ≠ [] -> ∀ a, Ap = some a -> a.block < Bc) := hpb
 have HA : Hid (AtT L J Bc w w 0 X0 (.slice none 0 0)) := ⟨World.ownsRow_nil _ _ _ _, h0, fun g q => by simp [Value.ownBlock] at q, Below.refl _ _, fun j q => by omega⟩
 have HG : Hid (∀ k, k < L.length -> ∃ n, L[k]? = some n /\ n.tx.size <= 140737488355328 /\ L ≠ []) := fun k hk => ⟨_, List.getElem?_eq_getElem hk, hT _ (List.getElem_mem hk), by rintro rfl; simp at hk⟩
 have HN : Hid (¬ 2048 < L.length) := hlong
 clear hT hp hpb hs h0 hB hlong
 obtain ⟨i0, hinf, hz0, hz1, hz2⟩ := info_parts Tryz.info59
 go_enter Tryz.func45, Tryz.ntmps45
 go_wp2_with fail
 go_loopw [6, 17] (fun v t wr => ∃ k : Nat, ∃ X, k <= L.length /\ t = .int .i64 k /\ Hid (AtT L J Bc w wr k X v)) (fun _ t _ => L.length - (intOf t).toNat)
 case atStart => exact ⟨0, X0, by omega, by go_num, HA⟩
 case round =>
  obtain ⟨k, X, hk, rfl, HW⟩ := hrel
  clear HA
  by_cases hlt : k < L.length
  ·obtain ⟨n, hn, htx, hne⟩ := HG.out k hlt
   obtain ⟨gp, op, rfl, lp, cl⟩ := HP.out hne
   have hgb := HPb.out hne _ rfl
   have HNn : Hid (L[k]? = some n) := hn
   have HAl : Hid (∀ w, Calls Tryz.prog 67 #[ndG n] w fun e w' => e = .returned (.int .i64 (alE n)) /\ Below w.heap.size w w') := fun w => zek n htx w
   have HAr : Hid (∀ w, Calls Tryz.prog 68 #[.int .i64 n.op] w fun e w' => e = .returned (.int .i64 (ar n.op)) /\ w' = w) := fun w => zej n.op w
   obtain ⟨c0, c1, c2, c3, c4, c5, c6⟩ := (cl.same (HW.out.b.block gp hgb)) k n hn
   have z0 : (0 : Int) <= (k : Int) := by omega
   have z1 : (k : Int) < (L.length : Int) := by omega
   have HCl : Hid (NdL w gp op L) := cl
   have HXlt : Hid (∀ b, X b -> b < wr.heap.size) := fun b hb => (HS.out.far _ _ _ HW.out.j b hb).2
   have hwr2 : wr.heap.size <= wr.heap.size := Nat.le_refl _
   clear hn hne cl HG
   go_wp2_with fail
   refine (HAl.out _).mono ?_
   rintro e w2 ⟨rfl, b2⟩
   clear HAl c0 c1 c2 c3 c4 c5 c6
   have HBox : Hid (NB w2 wr.heap.size 0 n) := (zgu wr n).below b2
   have HW2 : Hid (AtT L J Bc w w2 k X _) := HW.out.below HS.out HB.out ((zaa wr (ndO n)).trans (b2.mono (zaa _ _).size))
   have hsz2 : wr.heap.size <= w2.heap.size := Nat.le_trans (zaa wr (ndO n)).size b2.size
   clear b2 HW hwr2
   have hJn := HN.out
   by_cases hal : alE n = 0
   ·have ta : (alE n != 0) = false := by rw [hal]; rfl
    have hrn := zoc hal
    have HQ : Hid (er L k = if (run L k).length < arN n.op then 42 else if 60 < (pt L k).2.2 then 4 else 0) := (by show er L k = _; rw [zmg HNn.out, if_neg (by rw [hal]; simp)])
    have hlen := zjZ L k
    have har := ar_hi n.op
    obtain ⟨A, cA, hv, hAo⟩ : ∃ A c, u6 = .slice A (run L k).length c /\ (A = none /\ run L k = [] /\ c = 0 ∨ ∃ g, A = some ⟨g, 0, none⟩ /\ g < w2.heap.size /\ (run L k).length <= c) := by
     rcases HW2.out.o.2 with ⟨q1, q2⟩ | ⟨g, cap, cur, q1, q2, q3, q4, _⟩
     ·exact ⟨none, 0, by rw [q1, q2], .inl ⟨rfl, List.eq_nil_of_length_eq_zero q2, rfl⟩⟩
     ·exact ⟨_, cap, q1, .inr ⟨g, rfl, (Array.getElem?_eq_some_iff.1 q3).1, q4⟩⟩
    subst hv
    have b0 := HBox.out.c0
    rw [<- hrn] at HAr
    rw [<- hrn] at har
    generalize hrl : (run L k).length = m at *
    have HRl : Hid ((run L k).length = m) := hrl
    have HAo := hO hAo
    clear hAo hal hrl hrn
    generalize alE n = ea at *
    by_cases hfew : m < arN n.op
    ·have HE := (show Hid (ck L = (k, 42)) from (by
      show ck L = _
      have e : er L k = 42 := by rw [HQ.out, if_pos hfew]
      rw [zjW hJn hlt HW2.out.e (by rw [e]; decide), e]))
     have zf : decide ((m : Int) - (arN n.op : Int) < 0) = true := decide_eq_true (by omega)
     have HBb : Hid (Below Bc w w2) := HW2.out.b
     have HJ : Hid (J k X w2) := HW2.out.j
     clear HQ HW2 HNn HS HB HP HPb HN HRl HAo
     go_wp2_with fail
     refine (HAr.out _).mono ?_
     rintro e w2 ⟨rfl, rfl⟩
     clear HAr HBox
     generalize arN n.op = aa at *
     go_wp2_with fail
     go_ret2
     exact ⟨by rw [HE.out]; rfl, HBb.out, k, X, HJ.out, fun q => by rw [HE.out] at q; cases q⟩
    ·obtain ⟨r, hr⟩ : ∃ r, r + arN n.op = m := ⟨m - arN n.op, by omega⟩
     have HM : Hid (er L k = if 60 < (pt L k).2.2 then 4 else 0) := (by show er L k = _; rw [HQ.out, if_neg hfew])
     have hrd := zob hk HW2.out.e
     obtain ⟨xs, hxs⟩ : ∃ xs, ((run L k).take (arN n.op)).reverse = xs := ⟨_, rfl⟩
     have hxl : xs.length = arN n.op := by rw [<- hxs, List.length_reverse, List.length_take, HRl.out]; omega
     have hxb : ∀ x ∈ xs, x.1 <= 2048 /\ x.2.1 < L.length /\ x.2.2 <= 100 := fun x hx => by
      rw [<- hxs] at hx
      obtain ⟨q1, q2, q3, _⟩ := hrd x (List.mem_of_mem_take (List.mem_reverse.1 hx))
      exact ⟨by omega, by omega, by omega⟩
     have hpm : pw L k n.op xs xs.length = pt L k := by
      rw [hxl, <- hxs, pw_mk L k n.op (run L k) (by rw [HRl.out]; omega)]
      unfold pt
      rw [zeW HNn.out]
     obtain ⟨A2, hA2, hA2r, hA2b⟩ : ∃ A2, (if cA = r then A else Option.map (fun x => x.add (r * 3)) A) = A2 /\ RdP w2 A2 xs /\ ∀ a, A2 = some a -> ¬ X a.block /\ a.block < w2.heap.size := by
      refine ⟨_, rfl, ?_, ?_⟩
      ·intro hx0
       have ha0 : 0 < arN n.op := by rw [<- hxl]; exact List.length_pos_iff.2 hx0
       rcases HAo.out with ⟨q1, q2, q3⟩ | ⟨g, q1, q2, q3⟩
       ·have := HRl.out; rw [q2] at this; simp at this; omega
       ·have hc : ¬ cA = r := by omega
        rw [if_neg hc, q1]
        refine ⟨g, r * 3, by rw [Option.map_some, Addr.add_lit, Nat.zero_add], q2, ?_⟩
        intro j p hj
        have hcl := HW2.out.o.cells (g := g) (by rw [q1]; rfl)
        have hj2 : (run L k).reverse[r + j]? = some p := by
         have := zh8 (run L k) (arN n.op) (by rw [HRl.out]; omega)
         rw [hxs, HRl.out, show m - arN n.op = r from by omega] at this
         rw [<- this, List.getElem?_drop] at hj
         exact hj
        have key : ∀ i u, i < 3 -> (ptV p)[i]? = some u -> w2.cell? ⟨g, (r + j) * 3 + i, none⟩ = some u := fun i u hi hu => by
         have := hcl ((r + j) * 3 + i) u (by rw [zpi _ _ _ hj2 i hi]; exact hu)
         rwa [Addr.add_lit, Nat.zero_add] at this
        have e3 : r * 3 + j * 3 = (r + j) * 3 := by omega
        rw [e3]
        exact ⟨key 0 _ (by omega) rfl, key 1 _ (by omega) rfl, key 2 _ (by omega) rfl⟩
      ·intro a ha
       rcases HAo.out with ⟨q1, q2, q3⟩ | ⟨g, q1, q2, q3⟩
       ·rw [q1] at ha; split at ha <;> cases ha
       ·rw [q1] at ha
        have hX := HW2.out.d g (by rw [q1]; rfl)
        split at ha
        ·cases ha; exact ⟨hX, q2⟩
        ·rw [Option.map_some, Addr.add_lit] at ha; cases ha; exact ⟨hX, q2⟩
     have HAb : Hid (∀ W, Below w2.heap.size w2 W -> Calls Tryz.prog 69 #[.slice (some ⟨gp, op, none⟩) L.length cp, .int .i64 k, .slice A2 (arN n.op) (cA - r)] W fun e w' => e = .returned (ptG (pt L k)) /\ Below W.heap.size W w') := fun W hW => by
      have h := zj2 L (some ⟨gp, op, none⟩) cp k n HNn.out (by omega) A2 (cA - r) xs (by rw [hxl]; exact zcg _) hxb W (fun _ => ⟨gp, op, rfl, Nat.lt_of_lt_of_le lp (Nat.le_trans HW2.out.b.size hW.size), (HCl.out.same (HW2.out.b.block gp hgb)).same (hW.block gp (Nat.lt_of_lt_of_le lp HW2.out.b.size))⟩) (hA2r.below hW (Nat.le_refl _))
      rw [hxl] at h
      rw [hxl] at hpm
      rw [hpm] at h
      exact h
     have HR2 : Hid (RdP w2 A2 xs /\ ∀ a, A2 = some a -> ¬ X a.block /\ a.block < w2.heap.size) := ⟨hA2r, hA2b⟩
     have HX : Hid (((run L k).take (arN n.op)).reverse = xs) := hxs
     clear hA2r hA2b hxs hxb hrd hpm HQ hfew hxl
     have hsub : (m : Int) - (arN n.op : Int) = (r : Int) := by omega
     have hmr : m - r = arN n.op := by omega
     have zr : (r : Int) <= (m : Int) := by omega
     go_wp2_with fail
     refine (HAr.out _).mono ?_
     rintro e w2 ⟨rfl, rfl⟩
     clear HAr
     have HOp : Hid (zde L k = n.op) := zeW HNn.out
     have HAx : Hid (arN n.op <= 2 /\ r + arN n.op = m) := ⟨zcg _, hr⟩
     clear hr
     generalize haa : arN n.op = aa at *
     have HAa : Hid (arN n.op = aa) := haa
     clear haa
     go_wp2_with fail
     refine (HAb.out _ (Below.refl _ _)).mono ?_
     rintro e w3 ⟨rfl, b3⟩
     have hsz3 : w2.heap.size <= w3.heap.size := b3.size
     clear HAb
     have HB3 : Hid (Below w2.heap.size w2 (w3.alloc (.cells #[.int .i64 (pt L k).1, .int .i64 (pt L k).2.1, .int .i64 (pt L k).2.2] 87))) := b3.alloc b3.size _
     have HP3 : Hid (PB (w3.alloc (.cells #[.int .i64 (pt L k).1, .int .i64 (pt L k).2.1, .int .i64 (pt L k).2.2] 87)) w3.heap.size (pt L k).1 (pt L k).2.1 (pt L k).2.2) := PB.new _ _ _ _
     by_cases hd : 60 < (pt L k).2.2
     ·have HE := (show Hid (ck L = (k, 4)) from (by
       show ck L = _
       have e : er L k = 4 := by rw [HM.out, if_pos hd]
       rw [zjW hJn hlt HW2.out.e (by rw [e]; decide), e]))
      have zd : (60 : Int) < ((pt L k).2.2 : Int) := by omega
      have HBb : Hid (Below Bc w (w3.alloc (.cells #[.int .i64 (pt L k).1, .int .i64 (pt L k).2.1, .int .i64 (pt L k).2.2] 87))) := HW2.out.b.trans (HB3.out.mono (Nat.le_trans HB.out HW2.out.b.size))
      have HJ : Hid (J k X (w3.alloc (.cells #[.int .i64 (pt L k).1, .int .i64 (pt L k).2.1, .int .i64 (pt L k).2.2] 87))) := (HW2.out.below HS.out HB.out HB3.out).j
      clear HW2 HNn HS HB HP HPb HN HRl HAo HBox HB3 HP3 HM HR2 HX HOp HAx HAa b0 b3 HCl hA2 hmr hd
      generalize pt L k = P at *
      go_wp2_with fail
      go_ret2
      exact ⟨by rw [HE.out]; rfl, HBb.out, k, X, HJ.out, fun q => by rw [HE.out] at q; cases q⟩
     ·have HE0 : Hid (er L k = 0) := (by show er L k = _; rw [HM.out, if_neg hd])
      have zd : ¬ (60 : Int) < ((pt L k).2.2 : Int) := by omega
      have HW3 : Hid (AtT L J Bc w _ k X _) := HW2.out.below HS.out HB.out HB3.out
      have HR3 : Hid (RdP (w3.alloc (.cells #[.int .i64 (pt L k).1, .int .i64 (pt L k).2.1, .int .i64 (pt L k).2.2] 87)) A2 xs) := HR2.out.1.below HB3.out (Nat.le_refl _)
      have HD3 : Hid (∀ a, A2 = some a -> ¬ X a.block) := fun a ha => (HR2.out.2 a ha).1
      clear HR2 HM HNn HP HPb HCl b3 HW2
      have HPt : Hid (run L (k + 1) = pt L k :: (run L k).drop aa) := by show run L (k + 1) = _; rw [zcS, HOp.out, HAa.out]
      have HCall : Hid (∀ W, Below (w3.alloc (.cells #[.int .i64 (pt L k).1, .int .i64 (pt L k).2.1, .int .i64 (pt L k).2.2] 87)).heap.size (w3.alloc (.cells #[.int .i64 (pt L k).1, .int .i64 (pt L k).2.1, .int .i64 (pt L k).2.2] 87)) W →
        Calls Tryz.prog F (#[ptG (pt L k), .slice A2 aa (cA - r)] ++ caps) W fun e w' => (∃ u, e = .returned u) /\ ∃ X', J (k + 1) X' w' /\ Kp X W w' /\ ∀ b, X' b -> X b ∨ W.heap.size <= b) := fun W hW => by
       have hat := HW3.out.below HS.out HB.out hW
       have h := HS.out.call k X W A2 (cA - r) hat.j hat.b.size hlt (fun j hj => by
        by_cases q : j < k
        ·exact hat.e j q
        ·obtain rfl : j = k := by omega
         exact HE0.out) (by rw [HOp.out, HAa.out, HX.out]; exact HR3.out.below hW (Nat.le_refl _)) HD3.out
       rw [HOp.out, HAa.out] at h
       exact h
      have k0 := HP3.out.c0
      have k1 := HP3.out.c1
      have k2 := HP3.out.c2
      generalize hw4 : w3.alloc (.cells #[.int .i64 (pt L k).1, .int .i64 (pt L k).2.1, .int .i64 (pt L k).2.2] 87) = w4 at *
      clear HB3
      have HKb : Hid (∀ W, Kp X w4.drew W -> PB W w3.heap.size (pt L k).1 (pt L k).2.1 (pt L k).2.2) := fun W hW => HP3.out.same (hW.block _ HP3.out.lt (fun q => by have := HXlt.out _ q; omega))
      go_wp2_with fail
      go_region_held3 (fun W => W.cell? ⟨w3.heap.size, 0, none⟩ = some (.int .i64 (pt L k).1) /\ W.cell? ⟨w3.heap.size, 1, none⟩ = some (.int .i64 (pt L k).2.1) /\ W.cell? ⟨w3.heap.size, 2, none⟩ = some (.int .i64 (pt L k).2.2))
       (first | go_keep | exact ⟨(HKb.out _ hkp).c0, (HKb.out _ hkp).c1, (HKb.out _ hkp).c2⟩)
       ((with_reducible refine (HCall.out _ ((Below.refl _ _).drew)).mono ?_; rintro e wA ⟨⟨u, rfl⟩, X', hj, hkp, hx⟩))
      rename_i hHeld
      have HOw : Hid (wA.ownsRow w.heap.size 87 3 (.slice A m cA) m (ptc (run L k).reverse)) := own_kp (zmm (by have ho := HW3.out.o; rw [HRl.out] at ho; exact ho)) hkp HW3.out.d
      have HXx := (show Hid (∀ g, (Value.slice A m cA).ownBlock = some g -> w.heap.size <= g /\ g < wA.heap.size /\ ¬ X' g) from fun g hg => by
       obtain ⟨q1, q2⟩ := HOw.out.lt g hg
       refine ⟨q1, q2, fun q => ?_⟩
       rcases hx g q with q | q
       ·exact HW3.out.d g hg q
       ·have := (HW3.out.o.lt g hg).2
        have e : w4.drew.heap.size = w4.heap.size := rfl
        omega)
      have HBA : Hid (Below Bc w wA) := zml HW3.out.b hkp (fun b q => (HS.out.far _ _ _ HW3.out.j b q).1) (Nat.le_trans HB.out HW3.out.b.size)
      have HPA : Hid (PB wA w3.heap.size (pt L k).1 (pt L k).2.1 (pt L k).2.2) := HKb.out _ hkp
      have HJA : Hid (J (k + 1) X' wA) := hj
      have HEe := (show Hid (∀ j, j < k + 1 -> er L j = 0) from fun j hj => by
        by_cases q : j < k
        ·exact HW3.out.e j q
        ·obtain rfl : j = k := by omega
         exact HE0.out)
      have HOc : Hid (wA.ownsRow w.heap.size 87 3 (.slice A r cA) r (ptc ((run L k).drop aa).reverse)) := by
       show wA.ownsRow _ _ _ _ _ _
       have hre := zh9 (run L k) aa (by rw [HRl.out]; omega)
       rw [HRl.out, show m - aa = r from by omega] at hre
       have hpt : (ptc (run L k).reverse).take (r * 3) = ptc ((run L k).drop aa).reverse := by
        rw [<- hre]
        have e := zfj ((run L k).reverse.take r) ((run L k).reverse.drop r)
        rw [List.take_append_drop] at e
        rw [e, List.take_append_of_le_length (by rw [zj1, List.length_take, List.length_reverse, HRl.out]; omega)]
        exact List.take_of_length_le (by rw [zj1, List.length_take, List.length_reverse, HRl.out]; omega)
       rcases HAo.out with ⟨q1, q2, q3⟩ | ⟨g, q1, q2, q3⟩
       ·have hm0 : m = 0 := by have := HRl.out; rw [q2] at this; simpa using this.symm
        have hr0 : r = 0 := by omega
        rw [q1, q2, q3, hr0]
        exact ⟨by simp [ptc], .inl ⟨rfl, rfl⟩⟩
       ·have ho := HOw.out
        rw [q1] at ho ⊢
        have := zj3 ho (m := r) (by omega)
        rw [hpt] at this
        exact this
      clear hHeld hkp hx hj HKb HCall HW3 HOw HR3 HD3 HP3 HE0 HX hA2 hmr k0 k1 k2 hw4 HBox b0
      have zc : (r : Int) <= (cA : Int) := by
       rcases HAo.out with ⟨q1, q2, q3⟩ | ⟨g, q1, q2, q3⟩
       ·have := HRl.out; rw [q2] at this; have hm0 : m = 0 := by simpa using this.symm
        omega
       ·omega
      have hra : (if cA = 0 then A else Option.map (fun x => x.add 0) A) = A := by
       rcases HAo.out with ⟨q1, q2, q3⟩ | ⟨g, q1, q2, q3⟩
       ·rw [q1]; split <;> rfl
       ·rw [q1]; split
        ·rfl
        ·rw [Option.map_some, Addr.add_lit]
      have hrm : r <= 2048 := by omega
      have hO := HOc.out
      have hbs := HBA.out.size
      have k0 := HPA.out.c0
      have k1 := HPA.out.c1
      have k2 := HPA.out.c2
      have HK := (show Hid (∀ W, (wA.alloc (.cells #[.int .i64 (pt L k).1, .int .i64 (pt L k).2.1, .int .i64 (pt L k).2.2] 87)).drew.grownBy W (Value.slice A r cA).ownBlock -> W.cell? ⟨w3.heap.size, 0, none⟩ = some (.int .i64 (pt L k).1) /\ W.cell? ⟨w3.heap.size, 1, none⟩ = some (.int .i64 (pt L k).2.1) /\ W.cell? ⟨w3.heap.size, 2, none⟩ = some (.int .i64 (pt L k).2.2)) from fun W hW => by
       have hne : some w3.heap.size ≠ (Value.slice A r cA).ownBlock := by
        rcases HAo.out with ⟨q1, q2, q3⟩ | ⟨g, q1, q2, q3⟩
        ·rw [q1]; simp [Value.ownBlock]
        ·rw [q1]; intro e
         have e2 : w3.heap.size = g := Option.some.inj e
         omega
       have hp := (HPA.out.alloc (.cells #[.int .i64 (pt L k).1, .int .i64 (pt L k).2.1, .int .i64 (pt L k).2.2] 87))
       have hp2 : PB W w3.heap.size (pt L k).1 (pt L k).2.1 (pt L k).2.2 := hp.same ((hW.block _ hp.lt hne))
       exact ⟨hp2.c0, hp2.c1, hp2.c2⟩)
      go_wp2_with fail
      go_region_held3 (fun W => W.cell? ⟨w3.heap.size, 0, none⟩ = some (.int .i64 (pt L k).1) /\ W.cell? ⟨w3.heap.size, 1, none⟩ = some (.int .i64 (pt L k).2.1) /\ W.cell? ⟨w3.heap.size, 2, none⟩ = some (.int .i64 (pt L k).2.2)) (first | go_keep | exact HK.out _ hgrow) ((refine step_append_lies _ (by rfl) _ _ _ (by rfl) w.heap.size 87 i0 _ 3 24 Tryz.underlying88 hinf hz0 hz1 hz2 rfl (by omega) _ _ (ptc ((run L k).drop aa).reverse) (by rfl) ((hO.alloc _).drew) ⟨wA.heap.size, 0, none⟩ 1 1 [.int .i64 (pt L k).1, .int .i64 (pt L k).2.1, .int .i64 (pt L k).2.2] (by rfl) (by rfl) (World.news_of_block (cs := #[.int .i64 (pt L k).1, .int .i64 (pt L k).2.1, .int .i64 (pt L k).2.2]) (t := 87) (fr := (0, 0)) (heap_alloc_new wA _)) (by simp [Value.oneCell']) (by omega) (by unfold maxLen; omega) (by omega) (by simp; omega) (wA.heap.size + 1) (by simp) ?_; intro g cap w5 hown1 hgrow hat hltg))
      all_goals
       have hob : (Value.slice A r cA).ownBlock = (Value.slice A m cA).ownBlock := by cases A <;> rfl
       rw [hob] at hgrow hat
       have hfar := HS.out.far _ _ _ HJA.out
       have HW5 := (show Hid (AtT L J Bc w w5 (k + 1) X' (.slice (some ⟨g, 0, none⟩) (r + 1) cap)) from (by
        have hrn : (run L (k + 1)).length = r + 1 := by rw [HPt.out, List.length_cons, List.length_drop, HRl.out]; omega
        have hg0 : ∀ j, (Value.slice A m cA).ownBlock = some j -> w.heap.size <= j := fun j e => (HXx.out j e).1
        refine ⟨?_, ?_, ?_, ?_, HEe.out⟩
        ·rw [hrn, HPt.out, List.reverse_cons, zfj]
         exact hown1
        ·refine HS.out.kept (k + 1) X' wA w5 HJA.out (Nat.le_trans (by simp) hgrow.size) (fun b hb => ?_)
         have hlt : b < wA.heap.size := by
          rcases hb with hb | hb
          ·omega
          ·exact (hfar b hb).2
         have h1 := hgrow.block b (by show b < (wA.alloc (.cells #[.int .i64 (pt L k).1, .int .i64 (pt L k).2.1, .int .i64 (pt L k).2.2] 87)).heap.size; rw [World.size_alloc]; omega) (by
          intro e
          have h3 := HXx.out b e.symm
          rcases hb with hb | hb
          ·omega
          ·exact h3.2.2 hb)
         exact h1.trans ((zaa wA _).block b hlt)
        ·intro j e q
         have e2 : g = j := Option.some.inj e
         subst e2
         rcases hat with hat | hat
         ·exact (HXx.out g hat).2.2 q
         ·have := (hfar g q).2; omega
        ·exact ((HBA.out.alloc (Nat.le_trans HB.out hbs) (.cells #[.int .i64 (pt L k).1, .int .i64 (pt L k).2.1, .int .i64 (pt L k).2.2] 87)).drew).grown hgrow (Nat.le_trans HB.out (Nat.le_trans hbs (zaa wA (.cells #[.int .i64 (pt L k).1, .int .i64 (pt L k).2.1, .int .i64 (pt L k).2.2] 87)).size)) (fun j e => Nat.le_trans HB.out (hg0 j e))))
       rename_i hHeld
       clear hHeld hown1 hgrow hat hltg hO HK hfar hob k0 k1 k2 HPA HJA HXx HOc HBA HEe hra zc HAo
       go_wp2_with fail
       go_roundw
       case rel => exact ⟨k + 1, X', by omega, by go_num, HW5⟩
       case measure => simp [intOf]; omega
   ·have HE := (show Hid (ck L = (k, alE n)) from (by
     show ck L = _
     have e : er L k = alE n := by rw [zmg HNn.out, if_pos hal]
     rw [zjW hJn hlt HW2.out.e (by rw [e]; exact hal), e]))
    have ta : (alE n != 0) = true := by rw [bne, bF hal]; rfl
    have HBb : Hid (Below Bc w w2) := HW2.out.b
    have HJ : Hid (J k X w2) := HW2.out.j
    clear HW2 HNn HS HB HP HPb HN HBox HAr
    have HH : Hid (¬ alE n = 0) := hal
    clear hal
    generalize alE n = ea at *
    go_wp2_with fail
    go_ret2
    exact ⟨by rw [HE.out]; rfl, HBb.out, k, X, HJ.out, fun q => by rw [HE.out] at q; exact absurd q HH.out⟩
  ·obtain rfl : k = L.length := by omega
   have HE : Hid (ck L = if (run L L.length).length = 1 then (0, 0) else (L.length, 42)) := zoa HN.out HW.out.e
   obtain ⟨A, cA, hv⟩ : ∃ A c, u6 = .slice A (run L L.length).length c := by
    rcases HW.out.o.2 with ⟨q1, q2⟩ | ⟨g, cap, cur, q1, q2, q3, q4, _⟩
    ·exact ⟨none, 0, by rw [q1, q2]⟩
    ·exact ⟨_, cap, q1⟩
   subst hv
   have HJ : Hid (J L.length X wr) := HW.out.j
   have HBw : Hid (Below Bc w wr) := HW.out.b
   clear HW HS HB HP HPb HG HN
   generalize (run L L.length).length = m at *
   by_cases h1 : m = 1
   ·have t1 : ((m : Int) != 1) = false := by rw [bne, beq_iff_eq.2 (by omega)]; rfl
    have HE2 : Hid (ck L = (0, 0)) := by show ck L = _; rw [HE.out, if_pos h1]
    clear h1 HE
    go_wp2_with fail
    go_ret2
    exact ⟨by rw [HE2.out]; rfl, HBw.out, L.length, X, HJ.out, fun _ => rfl⟩
   ·have t1 : ((m : Int) != 1) = true := by rw [bne, bF (by omega)]; rfl
    have HE2 : Hid (ck L = (L.length, 42)) := by show ck L = _; rw [HE.out, if_neg h1]
    clear h1 HE
    go_wp2_with fail
    go_ret2
    exact ⟨by rw [HE2.out]; rfl, HBw.out, L.length, X, HJ.out, fun _ => rfl⟩
def decNd (a b:Nd):Decidable (a = b):=if h:a.op = b.op /\ a.nn = b.nn /\ a.tx.data = b.tx.data /\ a.s0 = b.s0 /\ a.s1 = b.s1 /\ a.s2 = b.s2 /\ a.s3 = b.s3 then isTrue (by
 obtain ⟨h1,h2,h3,h4,h5,h6,h7⟩ := h
 obtain ⟨a1,a2,⟨a3⟩,a4,a5,a6,a7⟩ := a
 obtain ⟨b1,b2,⟨b3⟩,b4,b5,b6,b7⟩ := b
 dsimp only at h1 h2 h3 h4 h5 h6 h7
 subst h1 h2 h3 h4 h5 h6 h7
 rfl) else isFalse (fun e => h (by rw [e];exact ⟨rfl,rfl,rfl,rfl,rfl,rfl,rfl⟩))
def zj4 (L M:List Nd):Decidable (L = M):=@instDecidableEqList Nd decNd L M
def zgw (L M:List Nd):Bool:=@decide (L = M) (zj4 L M)
theorem patB_t {L M : List Nd} (hl : L.length = M.length) (h : ∀ j : Nat, j < L.length -> L[j]? = M[j]?) : zgw L M = true := by
 unfold zgw
 refine @decide_eq_true _ (zj4 _ _) (List.ext_getElem? fun j => ?_)
 by_cases q : j < L.length
 ·exact h j q
 ·rw [List.getElem?_eq_none (by omega), List.getElem?_eq_none (by omega)]
theorem patB_f {L M : List Nd} (j : Nat) (h : L[j]? ≠ M[j]?) : zgw L M = false := by
 unfold zgw
 exact @decide_eq_false _ (zj4 _ _) (fun e => h (by rw [e]))
theorem zpj {L M : List Nd} (h : ¬ L.length = M.length) : zgw L M = false := by
 unfold zgw
 exact @decide_eq_false _ (zj4 _ _) (fun e => h (by rw [e]))
theorem zem (A1 A2 : Option Addr) (c1 c2 : Nat) (L M : List Nd) (hl : L.length <= 140737488355328) (hm : M.length <= 140737488355328) (w : World) (h1 : RdN w A1 L) (h2 : RdN w A2 M) :
  Calls Tryz.prog 20 #[.slice A1 L.length c1, .slice A2 M.length c2] w fun e w' => e = .returned (.bool (zgw L M)) /\ Below w.heap.size w w' := by
 by_cases hne : L.length = M.length
 ·have t0 : ((L.length : Int) != (M.length : Int)) = false := by rw [bne, beq_iff_eq.2 (by omega)]; rfl
  have HT : Hid ((∀ j : Nat, j < L.length -> L[j]? = M[j]?) -> zgw L M = true) := fun h => patB_t hne h
  have HF : Hid (∀ j : Nat, L[j]? ≠ M[j]? -> zgw L M = false) := fun j h => patB_f j h
  have H1 := hO h1
  have H2 := hO h2
  have HG : Hid (∀ k, k < L.length -> ∃ m n, L[k]? = some m /\ M[k]? = some n /\ L ≠ [] /\ M ≠ []) := fun k hk => ⟨_, _, List.getElem?_eq_getElem hk, List.getElem?_eq_getElem (by omega), by rintro rfl; simp at hk, by rintro rfl; rw [hne] at hk; simp at hk⟩
  have hle : (L.length : Int) = (M.length : Int) := by omega
  clear h1 h2 hne
  go_enter Tryz.func20, Tryz.ntmps20
  go_wp2_with fail
  go_loopw [5] (fun t wr => ∃ k : Nat, k <= L.length /\ t = .int .i64 k /\ Hid (∀ j : Nat, j < k -> L[j]? = M[j]?) /\ Hid (Below w.heap.size w wr)) (fun t _ => L.length - (intOf t).toNat)
  case atStart => exact ⟨0, by omega, by go_num, fun j q => by omega, Below.refl _ _⟩
  case round =>
   obtain ⟨k, hk, rfl, HI, HW⟩ := hrel
   by_cases hlt : k < L.length
   ·obtain ⟨m, n, hm1, hn1, nl, nm⟩ := HG.out k hlt
    obtain ⟨g1, o1, rfl, l1, q1⟩ := H1.out nl
    obtain ⟨g2, o2, rfl, l2, q2⟩ := H2.out nm
    obtain ⟨a0, a1, a2, a3, a4, a5, a6⟩ := (q1.same (HW.out.block g1 l1)) k m hm1
    obtain ⟨d0, d1, d2, d3, d4, d5, d6⟩ := (q2.same (HW.out.block g2 l2)) k n hn1
    have z0 : (0 : Int) <= (k : Int) := by omega
    have z1 : (k : Int) < (L.length : Int) := by omega
    have z2 : (k : Int) < (M.length : Int) := by omega
    have HN : Hid (L[k]? = some m /\ M[k]? = some n) := ⟨hm1, hn1⟩
    clear HG H1 H2 q1 q2 nl nm hm1 hn1 hle
    have hneq := zmj m n
    cases he : ndE m n with
    | true =>
     rw [he] at hneq
     have HI2 := (show Hid (∀ j : Nat, j < k + 1 -> L[j]? = M[j]?) from fun j hj => by
      by_cases q : j < k
      ·exact HI.out j q
      ·obtain rfl : j = k := by omega
       rw [HN.out.1, HN.out.2, zoe he])
     clear HT HF HI he HN
     go_wp2_with fail
     go_quiet (fail)
     have HW2 : Hid (Below w.heap.size w (wr.drewN nq)) := HW.out.trans (below_drewN (Below.refl _ _) _)
     generalize wr.drewN nq = w2 at *
     clear hneq a0 a1 a2 a3 a4 a5 a6 d0 d1 d2 d3 d4 d5 d6 HW
     go_wp2_with fail
     go_roundw
     case rel => exact ⟨k + 1, by omega, by go_num, HI2, HW2⟩
     case measure => simp [intOf]; omega
    | false =>
     rw [he] at hneq
     have HE := (show Hid (zgw L M = false) from HF.out k (by
      rw [HN.out.1, HN.out.2]
      intro e
      have e2 : m = n := Option.some.inj e
      rw [ndE_iff.2 e2] at he
      cases he))
     clear HT HF HI he HN
     go_wp2_with fail
     go_quiet (fail)
     have HW2 : Hid (Below w.heap.size w (wr.drewN nq)) := HW.out.trans (below_drewN (Below.refl _ _) _)
     generalize wr.drewN nq = w2 at *
     clear hneq a0 a1 a2 a3 a4 a5 a6 d0 d1 d2 d3 d4 d5 d6 HW
     go_wp2_with fail
     go_ret
     exact ⟨by rw [HE.out]; rfl, HW2.out⟩
   ·obtain rfl : k = L.length := by omega
    have HE : Hid (zgw L M = true) := HT.out HI.out
    clear HG H1 H2 HT HF HI
    go_wp2_with fail
    go_ret
    exact ⟨by rw [HE.out]; rfl, HW.out⟩
 ·have t0 : ((L.length : Int) != (M.length : Int)) = true := by rw [bne, bF (by omega)]; rfl
  have HE : Hid (zgw L M = false) := zpj hne
  clear h1 h2 hne
  go_enter Tryz.func20, Tryz.ntmps20
  go_wp2_with fail
  go_ret
  exact ⟨by rw [HE.out]; rfl, Below.refl _ _⟩
theorem zmn (args : Array Value) (w : World) : (callFunc 46 args).run Tryz.prog w = .ok (.enter 46 args) w := enters_of Tryz.func46 (by kernel_rfl) rfl args w
theorem zi5 (p : Pt) (v : Value) (w : World) : Calls Tryz.prog 46 #[ptG p, v] w fun e w' => (∃ u, e = .returned u) /\ Below w.heap.size w w' := by
 have HB : Hid (Below w.heap.size w (w.alloc (.cells #[.int .i64 p.1, .int .i64 p.2.1, .int .i64 p.2.2] 87))) := zaa _ _
 go_enter Tryz.func46, Tryz.ntmps46
 go_wp2_with fail
 go_end0
 exact ⟨⟨_, rfl⟩, HB.out⟩
theorem see37 (L : List Nd) (Bc B : Nat) : See L 46 #[] Bc B (fun _ X _ => ∀ b, ¬ X b) :=
 ⟨fun _ _ _ _ h _ _ => h, fun _ _ _ h b q => absurd q (h b), fun k X w A c h _ _ _ _ _ => (zi5 (pt L k) (.slice A (arN (zde L k)) c) w).mono fun _e _w' ⟨he, hb⟩ => ⟨he, X, h, ⟨hb.os, hb.tape, hb.output, hb.size, fun b hlt _ => hb.block b hlt⟩, fun _b q => .inl q⟩⟩
theorem zbb (L : List Nd) (Ap : Option Addr) (cp : Nat) (hL : L.length <= 140737488355328) (hT : ∀ n ∈ L, n.tx.size <= 140737488355328) (w : World) (hp : RdN w Ap L) :
  Calls Tryz.prog 25 #[.slice Ap L.length cp] w fun e w' => e = .returned (.tuple #[.int .i64 (ck L).1, .int .i64 (ck L).2]) /\ Below w.heap.size w w' := by
 have H : Hid (∀ _ : Unit, Calls Tryz.prog 45 #[.slice Ap L.length cp, .func (.func 46) #[] #[]] w fun e w' => e = .returned (.tuple #[.int .i64 (ck L).1, .int .i64 (ck L).2]) /\ Below w.heap.size w w' /\ ∃ (k : Nat) (X : Nat -> Prop), (∀ b, ¬ X b) /\ ((ck L).2 = 0 -> k = L.length)) := (fun _ => zhq L 46 #[] (fun _ X _ => ∀ b, ¬ X b) Ap cp w.heap.size hL hT w (Nat.le_refl _) hp (fun hne a ha => by
  obtain ⟨g, o, e, lt, _⟩ := hp hne
  rw [e] at ha
  cases ha
  exact lt) zmn (see37 L _ _) (fun _ => False) (fun _ q => q))
 clear hp hT hL
 go_enter Tryz.func25, Tryz.ntmps25
 go_wp2_with fail
 refine (H.out ()).mono ?_
 rintro e w2 ⟨rfl, b2, _⟩
 clear H
 have HB := hO b2
 clear b2
 go_wp2_with fail
 go_ret2
 exact ⟨rfl, HB.out⟩
theorem Tryz.info43 : (Tryz.prog.info? 51).map (fun i => (i.zero, i.size, i.bytes)) = some (some (.agg #[.int .i64 0, .int .i64 0, .string ⟨#[]⟩, .int .u64 0, .int .u64 0, .int .u64 0, .int .u64 0]), 7, 64) := by kernel_rfl
theorem zpk (L : List Nd) (j : Nat) (n : Nd) (h : L[j]? = some n) : ∀ i, i < 7 -> (ndc L)[j * 7 + i]? = (ndV n)[i]? := by
 induction L generalizing j with
 | nil => cases h
 | cons a L ih =>
  intro i hi
  have e : ndc (a :: L) = ndV a ++ ndc L := rfl
  rw [e]
  cases j with
  | zero =>
   cases h
   rw [Nat.zero_mul, Nat.zero_add, List.getElem?_append_left (by show i < 7; exact hi)]
  | succ j =>
   have h2 : L[j]? = some n := by simpa using h
   have e7 : (ndV a).length = 7 := rfl
   rw [List.getElem?_append_right (by rw [e7]; omega), e7, show (j + 1) * 7 + i - 7 = j * 7 + i from by omega]
   exact ih j h2 i hi
theorem zgx (n : Nd) : ∀ u ∈ ndV n, u.oneCell' = true := fun u hu => by
 simp only [ndV, List.mem_cons, List.not_mem_nil, or_false] at hu
 rcases hu with rfl | rfl | rfl | rfl | rfl | rfl | rfl <;> rfl
theorem zhr {W : World} {B g n cap : Nat} {L : List Nd} {xs : List Value} (h : W.ownsRow B 51 7 (.slice (some ⟨g, 0, none⟩) n cap) n (ndc L ++ xs)) : NdL W g 0 L := fun j nd hj => by
 have hc := h.cells (g := g) rfl
 have hjl : j < L.length := by
  by_cases q : j < L.length
  ·exact q
  ·rw [List.getElem?_eq_none (by omega)] at hj; cases hj
 have key : ∀ i u, i < 7 -> (ndV nd)[i]? = some u -> W.cell? ⟨g, 0 + j * 7 + i, none⟩ = some u := fun i u hi hu => by
  have := hc (j * 7 + i) u (by rw [List.getElem?_append_left (by rw [zhj]; omega), zpk L j nd hj i hi]; exact hu)
  rw [Addr.add_lit] at this
  rw [Nat.add_assoc]
  exact this
 exact ⟨key 0 _ (by omega) rfl, key 1 _ (by omega) rfl, key 2 _ (by omega) rfl, key 3 _ (by omega) rfl, key 4 _ (by omega) rfl, key 5 _ (by omega) rfl, key 6 _ (by omega) rfl⟩
end Go.Proofs.YtnpifgcgjgddoaaGreatDoor.T
namespace Go.Proofs.YtnpifgcgjgddoaaGreatDoor.N
open Go.RowKit
theorem app_ty (ty : TypeId) (A : Option Addr) (n c : Nat) (x : Value) (W : World) : (Builtin.append_ #[23, 22] ty #[.slice A n c, x]).run Tryz.prog W = (Builtin.append_ #[23, 23] ty #[.slice A n c, x]).run Tryz.prog W := by
 unfold Builtin.append_
 simp only [List.getElem?_toArray, List.getElem?_cons_zero, List.getElem?_cons_succ, Sem.run_bind, run_underlying Tryz.underlying23, Result.andThen_ok, pure_bind]
 refine congrArg (Result.andThen _) (funext fun size => funext fun w2 => ?_)
 simp only [run_underlying Tryz.underlying22, Result.andThen_ok]
theorem zhs {w : World} {ops : Array Oper} {rest : List Oper} {o : Oper} {a : Act} {Q : Exit -> Act -> World -> Prop} (hgd : o.guard = none) (s x : Operand)
  (ho : o.op = .call { callee := .builtin .append, args := #[s, x], argTypes := #[23, 22] }) (base : Nat) (v : Value) (n : Nat) (xs : List Value) (hs : a.eval s = v) (hown : w.ownsRow base 51 7 v n xs)
  (ad : Addr) (m c : Nat) (news : List Value) (hx : a.eval x = .slice (some ad) m c) (hl : news.length = m * 7) (hnews : ∀ j u, news[j]? = some u -> w.cell? (ad.add j) = some u) (h1 : ∀ u ∈ news, u.oneCell' = true)
  (hm : 0 < m) (h63 : n + m <= 2000000000000) (hbase : base <= w.heap.size)
  (h : ∀ g cap w', w'.ownsRow base 51 7 (.slice (some ⟨g, 0, none⟩) (n + m) cap) (n + m) (xs ++ news) -> w.grownBy w' v.ownBlock -> (v.ownBlock = some g ∨ g = w.heap.size) -> g < w'.heap.size -> wpList Tryz.prog ops Q rest (a.put o.dst (.slice (some ⟨g, 0, none⟩) (n + m) cap)) w') : wpList Tryz.prog ops Q (o :: rest) a w := by
 obtain ⟨i0, hinf, hz0, hz1, hz2⟩ := info_parts T.Tryz.info43
 obtain ⟨A, cp, hv⟩ : ∃ A cp, v = .slice A n cp := by
  rcases hown.2 with ⟨q, h0⟩ | ⟨g, cap, cur, q, _⟩
  ·exact ⟨none, 0, by rw [q, h0]⟩
  ·exact ⟨_, cap, q⟩
 refine wpList_plain hgd fun _ hK => ?_
 obtain ⟨g, cap, w', hr, h2, h3, h4, h5⟩ := run_append_lies (P := Tryz.prog) w 23 o.type base 51 i0 _ 7 64 Tryz.underlying23 hinf hz0 hz1 hz2 rfl (by decide) v n xs hown ad m c news hl hnews h1 hm (by unfold maxLen; omega) (by omega) hbase _ rfl
 rw [hv, <- app_ty, <- hv] at hr
 unfold Oper.wp execOp
 simp only [ho, resolve, invoke, builtin, Sem.run_bind, Sem.run_pure, Result.andThen_ok, List.map_toArray, List.map_cons, List.map_nil, hs, hx, hr]
 exact hK _ _ (h g cap w' h2 h3 h4 h5)
theorem zcs {E : PE} {z : Nat} {w0 W : World} {b : Nat} {tv : Value} {i d : Nat} {v : Value} {L : List Nd} (h : RS E z w0 W b tv i d v L) (hlt : i < E.l.length) (hz : E.l.length <= 1000000) :
  Calls Tryz.prog 90 #[.pointer (some ⟨b, 0, none⟩), .int .i64 (kdA E i)] W fun e W' => e = .returned (.tuple #[]) /\ RS E z w0 W' b tv (i + 1) d v L /\ Fr W W' b v v := by
 obtain ⟨t, ht, hk, _, _⟩ := zaw E z h.hi
 have HH : Hid (∀ _ : Unit, Calls Tryz.prog 62 #[.pointer (some ⟨b, 0, none⟩)] W fun e W' => e = .returned (.agg #[.int .i64 t.kd, .int .i64 t.nn, .int .i64 t.fr, .int .i64 t.en, .string t.tx, .int .u64 t.s0, .int .u64 t.s1, .int .u64 t.s2, .int .u64 t.s3]) /\ Below W.heap.size W W') := fun _ => zaC h t ht
 have H := hO h
 have fl0 := zlX
 rw [<- hk]
 have t1 : (t.kd != t.kd) = false := by simp
 obtain ⟨j, hj⟩ : ∃ j, j = i + 1 := ⟨_, rfl⟩
 have u1 : IntKind.i64.wrap ((i : Int) + 1) = (j : Int) := by rw [IntKind.wrap_i64]; omega
 have hj2 : j <= E.l.length := by omega
 rw [<- hj]
 clear h ht hk hj
 go_enter Tryz.func90, Tryz.ntmps90
 go_wp2_with fail
 refine (HH.out ()).mono ?_
 rintro e w1 ⟨rfl, hb⟩
 have H1 := hO (H.out.later hb)
 have HF : Hid (Fr W w1 b v v) := Fr.below b v hb
 clear hb HH H
 obtain ⟨k0, k1, k2, k3⟩ := H1.out.x.cl
 have f1' := H1.out.x.fz 1
 go_wp2_with fail
 go_end0
 exact ⟨rfl, H1.out.s1 hj2, HF.out.trans (Fr.set _ _ _ _ _)⟩
theorem zpl {E : PE} {z : Nat} {w0 W : World} {b : Nat} {tv : Value} {i d : Nat} {v : Value} {L : List Nd} (h : RS E z w0 W b tv i d v L) (k : Int) (hne : ¬ kdA E i = k) :
  Calls Tryz.prog 90 #[.pointer (some ⟨b, 0, none⟩), .int .i64 k] W fun e W' => e = pnc (plA E z i) 60 /\ Below w0.heap.size w0 W' := by
 obtain ⟨t, ht, hk, _, _⟩ := zaw E z h.hi
 have HH : Hid (∀ _ : Unit, Calls Tryz.prog 62 #[.pointer (some ⟨b, 0, none⟩)] W fun e W' => e = .returned (.agg #[.int .i64 t.kd, .int .i64 t.nn, .int .i64 t.fr, .int .i64 t.en, .string t.tx, .int .u64 t.s0, .int .u64 t.s1, .int .u64 t.s2, .int .u64 t.s3]) /\ Below W.heap.size W W') := fun _ => zaC h t ht
 have HR : Hid (∀ W, RS E z w0 W b tv i d v L -> Calls Tryz.prog 64 #[.pointer (some ⟨b, 0, none⟩), .int .i64 60] W fun e W' => e = pnc (plA E z i) 60 /\ Below W.heap.size W W') := fun W h => zbz h 60
 have H := hO h
 have fl0 := zlX
 have t1 : (t.kd != k) = true := by rw [hk]; simpa using hne
 clear h ht hk hne
 go_enter Tryz.func90, Tryz.ntmps90
 go_wp2_with fail
 refine (HH.out ()).mono ?_
 rintro e w1 ⟨rfl, hb⟩
 have H1 := hO (H.out.later hb)
 clear hb HH H
 go_wp2_with fail
 refine (HR.out _ H1.out).mono ?_
 rintro e w2 ⟨rfl, hb⟩
 exact zae rfl ⟨rfl, H1.out.bl.trans (hb.mono H1.out.bl.size)⟩
theorem zia {E : PE} {z : Nat} {w0 W : World} {b : Nat} {tv : Value} {i d : Nat} {v : Value} {L : List Nd} (h : RS E z w0 W b tv i d v L) (hlt : i < E.l.length) (hd : ¬ 240 <= d) (hz : E.l.length <= 1000000) :
  Calls Tryz.prog 184 #[.pointer (some ⟨b, 0, none⟩)] W fun e W' => e = .returned (.tuple #[]) /\ RS E z w0 W' b tv (i + 1) (d + 1) v L /\ Fr W W' b v v := by
 have H := hO h
 obtain ⟨j, hj⟩ : ∃ j, j = i + 1 := ⟨_, rfl⟩
 have u1 : IntKind.i64.wrap ((i : Int) + 1) = (j : Int) := by rw [IntKind.wrap_i64]; omega
 obtain ⟨m, hm⟩ : ∃ m, m = d + 1 := ⟨_, rfl⟩
 have u2 : IntKind.i64.wrap ((d : Int) + 1) = (m : Int) := by rw [IntKind.wrap_i64]; omega
 have t1 : ((d : Int) == 240) = false := by rw [beq_eq_false_iff_ne]; omega
 have H2 : Hid (RS E z w0 (W.setCell ⟨b, 2, none⟩ (.int .i64 m)) b tv i m v L) := h.s2 (by omega)
 have hj2 : j <= E.l.length := by omega
 rw [<- hj, <- hm]
 clear h hj hm
 obtain ⟨k0, k1, k2, k3⟩ := H.out.x.cl
 have f1' := H.out.x.fz 1
 have f2' := H.out.x.fz 2
 go_enter Tryz.func184, Tryz.ntmps184
 go_wp2_with fail
 go_end0
 exact ⟨rfl, H2.out.s1 hj2, (Fr.set _ _ _ _ _).trans (Fr.set _ _ _ _ _)⟩
theorem zib {E : PE} {z : Nat} {w0 W : World} {b : Nat} {tv : Value} {i d : Nat} {v : Value} {L : List Nd} (h : RS E z w0 W b tv i d v L) (hd : 240 <= d) :
  Calls Tryz.prog 184 #[.pointer (some ⟨b, 0, none⟩)] W fun e W' => e = pnc (plA E z i) 4 /\ Below w0.heap.size w0 W' := by
 have H := hO h
 obtain rfl : d = 240 := by have := h.hd; omega
 have HR : Hid (∀ W, RS E z w0 W b tv i 240 v L -> Calls Tryz.prog 64 #[.pointer (some ⟨b, 0, none⟩), .int .i64 4] W fun e W' => e = pnc (plA E z i) 4 /\ Below W.heap.size W W') := fun W h => zbz h 4
 clear h hd
 obtain ⟨k0, k1, k2, k3⟩ := H.out.x.cl
 go_enter Tryz.func184, Tryz.ntmps184
 go_wp2_with fail
 refine (HR.out _ H.out).mono ?_
 rintro e w2 ⟨rfl, hb⟩
 exact zae rfl ⟨rfl, H.out.bl.trans (hb.mono H.out.bl.size)⟩
theorem zgy {E : PE} {z : Nat} {w0 W : World} {b : Nat} {tv : Value} {i d : Nat} {v : Value} {L : List Nd} (h : RS E z w0 W b tv i (d + 1) v L) :
  Calls Tryz.prog 185 #[.pointer (some ⟨b, 0, none⟩)] W fun e W' => e = .returned (.tuple #[]) /\ RS E z w0 W' b tv i d v L /\ Fr W W' b v v := by
 have hd := h.hd
 have H := hO h
 obtain ⟨m, hm⟩ : ∃ m, m = d + 1 := ⟨_, rfl⟩
 have u2 : IntKind.i64.wrap ((m : Int) - 1) = (d : Int) := by rw [IntKind.wrap_i64]; omega
 rw [<- hm] at H
 have hd2 : d <= 240 := by omega
 clear h hm hd
 obtain ⟨k0, k1, k2, k3⟩ := H.out.x.cl
 have f2' := H.out.x.fz 2
 go_enter Tryz.func185, Tryz.ntmps185
 go_wp2_with fail
 go_end0
 exact ⟨rfl, H.out.s2 hd2, Fr.set _ _ _ _ _⟩
theorem zj5 {E : PE} {z : Nat} {w0 W : World} {b : Nat} {tv : Value} {i d : Nat} {v : Value} {L : List Nd} (h : RS E z w0 W b tv i d v L) (M : List Nd) (q c : Nat) (hM : 0 < M.length) (hl : L.length + M.length <= 2000000000000)
  (hq : ∀ j u, (T.ndc M)[j]? = some u -> W.cell? ((⟨q, 0, none⟩ : Addr).add j) = some u) :
  Calls Tryz.prog 119 #[.pointer (some ⟨b, 0, none⟩), .slice (some ⟨q, 0, none⟩) M.length c] W fun e W' => e = .returned (.tuple #[]) /\ ∃ v', RS E z w0 W' b tv i d v' (L ++ M) /\ Fr W W' b v v' := by
 have H := hO h
 have HQ : Hid (∀ j u, (T.ndc M)[j]? = some u -> W.cell? ((⟨q, 0, none⟩ : Addr).add j) = some u) := hq
 have H1 := (show Hid (∀ u ∈ T.ndc M, u.oneCell' = true) from fun u hu => by
  unfold T.ndc at hu
  rw [List.mem_flatMap] at hu
  obtain ⟨n, _, hn⟩ := hu
  exact T.zgx n u hn)
 obtain ⟨k0, k1, k2, k3⟩ := h.x.cl
 clear h hq
 go_enter Tryz.func119, Tryz.ntmps119
 go_wp2_with (at_builtin; refine zhs rfl _ _ rfl w0.heap.size _ _ _ rfl H.out.o ⟨q, 0, none⟩ M.length c (T.ndc M) rfl (T.zhj M) HQ.out H1.out hM hl H.out.bl.size ?_)
 intro g cap w1 hown hgrow hat hlt
 have H2 : Hid (RS E z w0 (w1.setCell ⟨b, 3, none⟩ (.slice (some ⟨g, 0, none⟩) (L.length + M.length) cap)) b tv i d (.slice (some ⟨g, 0, none⟩) (L.length + M.length) cap) (L ++ M)) := H.out.grow hgrow (by rw [List.length_append, T.zdz]; exact hown)
 have HF : Hid (Fr W (w1.setCell ⟨b, 3, none⟩ (.slice (some ⟨g, 0, none⟩) (L.length + M.length) cap)) b v (.slice (some ⟨g, 0, none⟩) (L.length + M.length) cap)) := (Fr.grow b hgrow hat).trans (Fr.set _ _ _ _ _)
 have hx : RX w1 b tv i d v := H.out.x.same (hgrow.block b H.out.x.lt (fun e => H.out.x.ne H.out.o (by decide) e.symm rfl))
 have c3 := hx.cl.2.2.2
 have f3 := hx.fz 3
 clear hown hgrow hat hlt hx k0 k1 k2 k3 HQ H1 H
 go_wp2_with fail
 go_end0
 exact ⟨rfl, _, H2.out, HF.out⟩
theorem zeZ {E : PE} {z : Nat} {w0 W : World} {b : Nat} {tv : Value} {i d : Nat} {v : Value} {L : List Nd} (h : RS E z w0 W b tv i d v L) (hz : E.l.length <= 1000000) :
  Calls Tryz.prog 43 #[.pointer (some ⟨b, 0, none⟩)] W fun e W' => e = .returned (.bool (ruB E i)) /\ Below W.heap.size W W' := by
 obtain ⟨t, ht, hk, _, _⟩ := zaw E z h.hi
 have HH : Hid (∀ _ : Unit, Calls Tryz.prog 62 #[.pointer (some ⟨b, 0, none⟩)] W fun e W' => e = .returned (.agg #[.int .i64 t.kd, .int .i64 t.nn, .int .i64 t.fr, .int .i64 t.en, .string t.tx, .int .u64 t.s0, .int .u64 t.s1, .int .u64 t.s2, .int .u64 t.s3]) /\ Below W.heap.size W W') := fun _ => zaC h t ht
 have H := hO h
 have fl0 := zlX
 by_cases h1 : kdA E i = 1
 ·have hlt := zbl (E := E) (i := i) (by omega)
  have HB : Hid (∀ W, RS E z w0 W b tv i d v L -> Calls Tryz.prog 65 #[.pointer (some ⟨b, 0, none⟩)] W fun e W' => e = .returned (.int .i64 (kdA E (i + 1))) /\ Below W.heap.size W W') := fun W h => zfi h hlt hz
  have HR : Hid (ruB E i = (kdA E (i + 1) == 6)) := by show ruB E i = _; unfold ruB; rw [h1]; rfl
  rw [hk.trans h1] at HH
  clear h ht hk h1 hlt
  generalize kdA E (i + 1) = k2 at *
  go_enter Tryz.func43, Tryz.ntmps43
  go_wp2_with fail
  refine (HH.out ()).mono ?_
  rintro e w1 ⟨rfl, hb⟩
  have H1 := hO (H.out.later hb)
  have HB1 := hO hb
  clear hb HH H
  go_wp2_with fail
  refine (HB.out _ H1.out).mono ?_
  rintro e w2 ⟨rfl, hb⟩
  go_wp2_with fail
  go_ret
  exact ⟨by rw [HR.out]; rfl, HB1.out.trans (hb.mono HB1.out.size)⟩
 ·have HR : Hid (ruB E i = false) := by show ruB E i = _; unfold ruB; rw [bF h1]; rfl
  have t1 : (t.kd == 1) = false := by rw [hk]; exact bF h1
  clear h ht hk h1
  go_enter Tryz.func43, Tryz.ntmps43
  go_wp2_with fail
  refine (HH.out ()).mono ?_
  rintro e w1 ⟨rfl, hb⟩
  have HB1 := hO hb
  clear hb HH H
  go_wp2_with fail
  go_ret
  exact ⟨by rw [HR.out]; rfl, HB1.out⟩
def prK (k : Int) : Bool := k == 2 || k == 3 || k == 28 || k == 5 || k == 18 || k == 29 || k == 30 || k == 16 || k == 19 || k == 21 || k == 23 || k == 25
def bgP (E : PE) (i : Nat) : Bool := prK (kdA E i) || (kdA E i == 1 && !(kdA E (i + 1) == 6))
theorem zj6 (E : PE) (i : Nat) : bgn E i = (kdA E i == 8 || kdA E i == 9 || bgP E i) := by
 unfold bgn bgP bgK prK
 simp only [Bool.or_assoc]
theorem zaH {E : PE} {z : Nat} {w0 W : World} {b : Nat} {tv : Value} {i d : Nat} {v : Value} {L : List Nd} (h : RS E z w0 W b tv i d v L) (hz : E.l.length <= 1000000) :
  Calls Tryz.prog 164 #[.pointer (some ⟨b, 0, none⟩)] W fun e W' => e = .returned (.bool (bgP E i)) /\ Below W.heap.size W W' := by
 obtain ⟨t, ht, hk, _, _⟩ := zaw E z h.hi
 have HH : Hid (∀ _ : Unit, Calls Tryz.prog 62 #[.pointer (some ⟨b, 0, none⟩)] W fun e W' => e = .returned (.agg #[.int .i64 t.kd, .int .i64 t.nn, .int .i64 t.fr, .int .i64 t.en, .string t.tx, .int .u64 t.s0, .int .u64 t.s1, .int .u64 t.s2, .int .u64 t.s3]) /\ Below W.heap.size W W') := fun _ => zaC h t ht
 have H := hO h
 have fl0 := zlX
 by_cases c2 : kdA E i = 2
 ·have HR : Hid (bgP E i = true) := by show bgP E i = _; unfold bgP; rw [c2]; rfl
  rw [hk.trans c2] at HH
  clear h ht hk c2 H
  go_enter Tryz.func164, Tryz.ntmps164
  go_wp2_with fail
  refine (HH.out ()).mono ?_
  rintro e w1 ⟨rfl, hb⟩
  have HB1 := hO hb
  clear hb HH
  go_wp2_with fail
  go_ret
  exact ⟨by rw [HR.out]; rfl, HB1.out⟩
 by_cases c3 : kdA E i = 3
 ·have HR : Hid (bgP E i = true) := by show bgP E i = _; unfold bgP; rw [c3]; rfl
  rw [hk.trans c3] at HH
  clear h ht hk c3 c2 H
  go_enter Tryz.func164, Tryz.ntmps164
  go_wp2_with fail
  refine (HH.out ()).mono ?_
  rintro e w1 ⟨rfl, hb⟩
  have HB1 := hO hb
  clear hb HH
  go_wp2_with fail
  go_ret
  exact ⟨by rw [HR.out]; rfl, HB1.out⟩
 by_cases c28 : kdA E i = 28
 ·have HR : Hid (bgP E i = true) := by show bgP E i = _; unfold bgP; rw [c28]; rfl
  rw [hk.trans c28] at HH
  clear h ht hk c28 c2 c3 H
  go_enter Tryz.func164, Tryz.ntmps164
  go_wp2_with fail
  refine (HH.out ()).mono ?_
  rintro e w1 ⟨rfl, hb⟩
  have HB1 := hO hb
  clear hb HH
  go_wp2_with fail
  go_ret
  exact ⟨by rw [HR.out]; rfl, HB1.out⟩
 by_cases c5 : kdA E i = 5
 ·have HR : Hid (bgP E i = true) := by show bgP E i = _; unfold bgP; rw [c5]; rfl
  rw [hk.trans c5] at HH
  clear h ht hk c5 c2 c3 c28 H
  go_enter Tryz.func164, Tryz.ntmps164
  go_wp2_with fail
  refine (HH.out ()).mono ?_
  rintro e w1 ⟨rfl, hb⟩
  have HB1 := hO hb
  clear hb HH
  go_wp2_with fail
  go_ret
  exact ⟨by rw [HR.out]; rfl, HB1.out⟩
 by_cases c18 : kdA E i = 18
 ·have HR : Hid (bgP E i = true) := by show bgP E i = _; unfold bgP; rw [c18]; rfl
  rw [hk.trans c18] at HH
  clear h ht hk c18 c2 c3 c28 c5 H
  go_enter Tryz.func164, Tryz.ntmps164
  go_wp2_with fail
  refine (HH.out ()).mono ?_
  rintro e w1 ⟨rfl, hb⟩
  have HB1 := hO hb
  clear hb HH
  go_wp2_with fail
  go_ret
  exact ⟨by rw [HR.out]; rfl, HB1.out⟩
 by_cases c29 : kdA E i = 29
 ·have HR : Hid (bgP E i = true) := by show bgP E i = _; unfold bgP; rw [c29]; rfl
  rw [hk.trans c29] at HH
  clear h ht hk c29 c2 c3 c28 c5 c18 H
  go_enter Tryz.func164, Tryz.ntmps164
  go_wp2_with fail
  refine (HH.out ()).mono ?_
  rintro e w1 ⟨rfl, hb⟩
  have HB1 := hO hb
  clear hb HH
  go_wp2_with fail
  go_ret
  exact ⟨by rw [HR.out]; rfl, HB1.out⟩
 by_cases c30 : kdA E i = 30
 ·have HR : Hid (bgP E i = true) := by show bgP E i = _; unfold bgP; rw [c30]; rfl
  rw [hk.trans c30] at HH
  clear h ht hk c30 c2 c3 c28 c5 c18 c29 H
  go_enter Tryz.func164, Tryz.ntmps164
  go_wp2_with fail
  refine (HH.out ()).mono ?_
  rintro e w1 ⟨rfl, hb⟩
  have HB1 := hO hb
  clear hb HH
  go_wp2_with fail
  go_ret
  exact ⟨by rw [HR.out]; rfl, HB1.out⟩
 by_cases c16 : kdA E i = 16
 ·have HR : Hid (bgP E i = true) := by show bgP E i = _; unfold bgP; rw [c16]; rfl
  rw [hk.trans c16] at HH
  clear h ht hk c16 c2 c3 c28 c5 c18 c29 c30 H
  go_enter Tryz.func164, Tryz.ntmps164
  go_wp2_with fail
  refine (HH.out ()).mono ?_
  rintro e w1 ⟨rfl, hb⟩
  have HB1 := hO hb
  clear hb HH
  go_wp2_with fail
  go_ret
  exact ⟨by rw [HR.out]; rfl, HB1.out⟩
 by_cases c19 : kdA E i = 19
 ·have HR : Hid (bgP E i = true) := by show bgP E i = _; unfold bgP; rw [c19]; rfl
  rw [hk.trans c19] at HH
  clear h ht hk c19 c2 c3 c28 c5 c18 c29 c30 c16 H
  go_enter Tryz.func164, Tryz.ntmps164
  go_wp2_with fail
  refine (HH.out ()).mono ?_
  rintro e w1 ⟨rfl, hb⟩
  have HB1 := hO hb
  clear hb HH
  go_wp2_with fail
  go_ret
  exact ⟨by rw [HR.out]; rfl, HB1.out⟩
 by_cases c21 : kdA E i = 21
 ·have HR : Hid (bgP E i = true) := by show bgP E i = _; unfold bgP; rw [c21]; rfl
  rw [hk.trans c21] at HH
  clear h ht hk c21 c2 c3 c28 c5 c18 c29 c30 c16 c19 H
  go_enter Tryz.func164, Tryz.ntmps164
  go_wp2_with fail
  refine (HH.out ()).mono ?_
  rintro e w1 ⟨rfl, hb⟩
  have HB1 := hO hb
  clear hb HH
  go_wp2_with fail
  go_ret
  exact ⟨by rw [HR.out]; rfl, HB1.out⟩
 by_cases c23 : kdA E i = 23
 ·have HR : Hid (bgP E i = true) := by show bgP E i = _; unfold bgP; rw [c23]; rfl
  rw [hk.trans c23] at HH
  clear h ht hk c23 c2 c3 c28 c5 c18 c29 c30 c16 c19 c21 H
  go_enter Tryz.func164, Tryz.ntmps164
  go_wp2_with fail
  refine (HH.out ()).mono ?_
  rintro e w1 ⟨rfl, hb⟩
  have HB1 := hO hb
  clear hb HH
  go_wp2_with fail
  go_ret
  exact ⟨by rw [HR.out]; rfl, HB1.out⟩
 by_cases c25 : kdA E i = 25
 ·have HR : Hid (bgP E i = true) := by show bgP E i = _; unfold bgP; rw [c25]; rfl
  rw [hk.trans c25] at HH
  clear h ht hk c25 c2 c3 c28 c5 c18 c29 c30 c16 c19 c21 c23 H
  go_enter Tryz.func164, Tryz.ntmps164
  go_wp2_with fail
  refine (HH.out ()).mono ?_
  rintro e w1 ⟨rfl, hb⟩
  have HB1 := hO hb
  clear hb HH
  go_wp2_with fail
  go_ret
  exact ⟨by rw [HR.out]; rfl, HB1.out⟩
 by_cases c1 : kdA E i = 1
 ·have HR : Hid (bgP E i = !(ruB E i)) := by
   show bgP E i = _
   unfold bgP ruB
   rw [c1]
   show (false || (true && !(kdA E (i + 1) == 6))) = !(true && (kdA E (i + 1) == 6))
   simp
  have HU : Hid (∀ W, RS E z w0 W b tv i d v L -> Calls Tryz.prog 43 #[.pointer (some ⟨b, 0, none⟩)] W fun e W' => e = .returned (.bool (ruB E i)) /\ Below W.heap.size W W') := fun W h => zeZ h hz
  have hnot : ∀ (x : Bool) (w : World), (Op.unary .not (.bool x)).run Tryz.prog w = .ok (.bool (!x)) w := fun _ _ => rfl
  rw [hk.trans c1] at HH
  clear h ht hk c1 c2 c3 c28 c5 c18 c29 c30 c16 c19 c21 c23 c25
  generalize ruB E i = r2 at *
  go_enter Tryz.func164, Tryz.ntmps164
  go_wp2_with fail
  refine (HH.out ()).mono ?_
  rintro e w1 ⟨rfl, hb⟩
  have H1 := hO (H.out.later hb)
  have HB1 := hO hb
  clear hb HH H
  go_wp2_with fail
  refine (HU.out _ H1.out).mono ?_
  rintro e w2 ⟨rfl, hb⟩
  go_wp2_with fail
  go_ret
  exact ⟨by rw [HR.out]; rfl, HB1.out.trans (hb.mono HB1.out.size)⟩
 ·have HR : Hid (bgP E i = false) := by
   show bgP E i = _
   unfold bgP prK
   simp only [bF c1, bF c2, bF c3, bF c28, bF c5, bF c18, bF c29, bF c30, bF c16, bF c19, bF c21, bF c23, bF c25]
   rfl
  have v1 : (t.kd == 1) = false := by rw [hk]; exact bF c1
  have v2 : (t.kd == 2) = false := by rw [hk]; exact bF c2
  have v3 : (t.kd == 3) = false := by rw [hk]; exact bF c3
  have v28 : (t.kd == 28) = false := by rw [hk]; exact bF c28
  have v5 : (t.kd == 5) = false := by rw [hk]; exact bF c5
  have v18 : (t.kd == 18) = false := by rw [hk]; exact bF c18
  have v29 : (t.kd == 29) = false := by rw [hk]; exact bF c29
  have v30 : (t.kd == 30) = false := by rw [hk]; exact bF c30
  have v16 : (t.kd == 16) = false := by rw [hk]; exact bF c16
  have v19 : (t.kd == 19) = false := by rw [hk]; exact bF c19
  have v21 : (t.kd == 21) = false := by rw [hk]; exact bF c21
  have v23 : (t.kd == 23) = false := by rw [hk]; exact bF c23
  have v25 : (t.kd == 25) = false := by rw [hk]; exact bF c25
  clear h ht hk c1 c2 c3 c28 c5 c18 c29 c30 c16 c19 c21 c23 c25 H
  go_enter Tryz.func164, Tryz.ntmps164
  go_wp2_with fail
  refine (HH.out ()).mono ?_
  rintro e w1 ⟨rfl, hb⟩
  have HB1 := hO hb
  clear hb HH
  go_wp2_with fail
  go_ret
  exact ⟨by rw [HR.out]; rfl, HB1.out⟩
theorem zfE {E : PE} {z : Nat} {w0 W : World} {b : Nat} {tv : Value} {i d : Nat} {v : Value} {L : List Nd} (h : RS E z w0 W b tv i d v L) (hz : E.l.length <= 1000000) :
  Calls Tryz.prog 146 #[.pointer (some ⟨b, 0, none⟩)] W fun e W' => e = .returned (.bool (bgn E i)) /\ Below W.heap.size W W' := by
 obtain ⟨t, ht, hk, _, _⟩ := zaw E z h.hi
 have HH : Hid (∀ _ : Unit, Calls Tryz.prog 62 #[.pointer (some ⟨b, 0, none⟩)] W fun e W' => e = .returned (.agg #[.int .i64 t.kd, .int .i64 t.nn, .int .i64 t.fr, .int .i64 t.en, .string t.tx, .int .u64 t.s0, .int .u64 t.s1, .int .u64 t.s2, .int .u64 t.s3]) /\ Below W.heap.size W W') := fun _ => zaC h t ht
 have H := hO h
 have fl0 := zlX
 by_cases c8 : kdA E i = 8
 ·have HR : Hid (bgn E i = true) := by show bgn E i = _; unfold bgn; rw [c8]; rfl
  rw [hk.trans c8] at HH
  clear h ht hk c8 H
  go_enter Tryz.func146, Tryz.ntmps146
  go_wp2_with fail
  refine (HH.out ()).mono ?_
  rintro e w1 ⟨rfl, hb⟩
  have HB1 := hO hb
  clear hb HH
  go_wp2_with fail
  go_ret
  exact ⟨by rw [HR.out]; rfl, HB1.out⟩
 by_cases c9 : kdA E i = 9
 ·have HR : Hid (bgn E i = true) := by show bgn E i = _; unfold bgn; rw [c9]; rfl
  rw [hk.trans c9] at HH
  clear h ht hk c9 c8 H
  go_enter Tryz.func146, Tryz.ntmps146
  go_wp2_with fail
  refine (HH.out ()).mono ?_
  rintro e w1 ⟨rfl, hb⟩
  have HB1 := hO hb
  clear hb HH
  go_wp2_with fail
  go_ret
  exact ⟨by rw [HR.out]; rfl, HB1.out⟩
 have HR : Hid (bgn E i = bgP E i) := by show bgn E i = _; rw [zj6, bF c8, bF c9]; rfl
 have HU : Hid (∀ W, RS E z w0 W b tv i d v L -> Calls Tryz.prog 164 #[.pointer (some ⟨b, 0, none⟩)] W fun e W' => e = .returned (.bool (bgP E i)) /\ Below W.heap.size W W') := fun W h => zaH h hz
 have v8 : (t.kd == 8) = false := by rw [hk]; exact bF c8
 have v9 : (t.kd == 9) = false := by rw [hk]; exact bF c9
 clear h ht hk c8 c9
 generalize bgP E i = r2 at *
 go_enter Tryz.func146, Tryz.ntmps146
 go_wp2_with fail
 refine (HH.out ()).mono ?_
 rintro e w1 ⟨rfl, hb⟩
 have H1 := hO (H.out.later hb)
 have HB1 := hO hb
 clear hb HH H
 go_wp2_with fail
 refine (HU.out _ H1.out).mono ?_
 rintro e w2 ⟨rfl, hb⟩
 go_wp2_with fail
 go_ret
 exact ⟨by rw [HR.out]; rfl, HB1.out.trans (hb.mono HB1.out.size)⟩
def sfO (k : Int) : Int := if k = 10 then 11 else if k = 11 then 9 else if k = 12 then 10 else if k = 13 then 14 else if k = 14 then 15 else if k = 15 then 16 else 0
def sfB (k : Int) : Bool := k == 10 || k == 11 || k == 12 || k == 13 || k == 14 || k == 15
theorem zgz (k : Int) (W : World) : Calls Tryz.prog 188 #[.int .i64 k] W fun e W' => e = .returned (.tuple #[.int .i64 (sfO k), .bool (sfB k)]) /\ W' = W := by
 by_cases c10 : k = 10
 ·subst c10
  go_enter Tryz.func188, Tryz.ntmps188
  go_wp2_with fail
  go_ret2
  exact ⟨rfl, rfl⟩
 by_cases c11 : k = 11
 ·subst c11
  clear c10
  go_enter Tryz.func188, Tryz.ntmps188
  go_wp2_with fail
  go_ret2
  exact ⟨rfl, rfl⟩
 by_cases c12 : k = 12
 ·subst c12
  clear c10 c11
  go_enter Tryz.func188, Tryz.ntmps188
  go_wp2_with fail
  go_ret2
  exact ⟨rfl, rfl⟩
 by_cases c13 : k = 13
 ·subst c13
  clear c10 c11 c12
  go_enter Tryz.func188, Tryz.ntmps188
  go_wp2_with fail
  go_ret2
  exact ⟨rfl, rfl⟩
 by_cases c14 : k = 14
 ·subst c14
  clear c10 c11 c12 c13
  go_enter Tryz.func188, Tryz.ntmps188
  go_wp2_with fail
  go_ret2
  exact ⟨rfl, rfl⟩
 by_cases c15 : k = 15
 ·subst c15
  clear c10 c11 c12 c13 c14
  go_enter Tryz.func188, Tryz.ntmps188
  go_wp2_with fail
  go_ret2
  exact ⟨rfl, rfl⟩
 have v10 : (k == 10) = false := bF c10
 have v11 : (k == 11) = false := bF c11
 have v12 : (k == 12) = false := bF c12
 have v13 : (k == 13) = false := bF c13
 have v14 : (k == 14) = false := bF c14
 have v15 : (k == 15) = false := bF c15
 have e1 : sfO k = 0 := by unfold sfO; rw [if_neg c10, if_neg c11, if_neg c12, if_neg c13, if_neg c14, if_neg c15]
 have e2 : sfB k = false := by unfold sfB; rw [v10, v11, v12, v13, v14, v15]; rfl
 rw [e1, e2]
 clear c10 c11 c12 c13 c14 c15 e1 e2
 go_enter Tryz.func188, Tryz.ntmps188
 go_wp2_with fail
 go_ret2
 exact ⟨rfl, rfl⟩
end Go.Proofs.YtnpifgcgjgddoaaGreatDoor.N
namespace Go.Proofs.YtnpifgcgjgddoaaGreatDoor.R
open Go.RowKit
theorem zeb (lo hi : Int) (w : World) (h0 : 0 <= lo) (hle : lo <= hi) (h1 : hi <= 255) :
  Calls Tryz.prog 183 #[.agg #[.int .u64 0, .int .u64 0, .int .u64 0, .int .u64 0], .int .i64 lo, .int .i64 hi] w fun e w' => e = .returned (sv (spn lo hi)) /\ Below w.heap.size w w' := by
 have h := zcP 0#256 lo hi w h0 hle h1
 rw [BitVec.zero_or, sv, zaj, zaj, zaj, zaj] at h
 exact h
theorem zi6 (lo hi : Int) (w : World) (h0 : 0 <= lo) (hle : lo <= hi) (h1 : hi <= 255) :
  Calls Tryz.prog 218 #[.int .i64 lo, .int .i64 hi] w fun e w' => e = .returned (.bool true) /\ w' = w := by
 have H1 : Hid (∀ w, Calls Tryz.prog 189 #[.int .i64 lo] w fun e w' => e = .returned (.bool true) /\ w' = w) := fun w => by
  have e := zbx lo w
  rwa [decide_eq_true h0, decide_eq_true (show lo <= 255 by omega)] at e
 have H2 : Hid (∀ w, Calls Tryz.prog 189 #[.int .i64 hi] w fun e w' => e = .returned (.bool true) /\ w' = w) := fun w => by
  have e := zbx hi w
  rwa [decide_eq_true (show 0 <= hi by omega), decide_eq_true h1] at e
 clear h0 h1
 go_enter Tryz.func218, Tryz.ntmps218
 go_wp2_with fail
 refine (H1.out _).mono ?_
 rintro e w' ⟨rfl, rfl⟩
 go_wp2_with fail
 refine (H2.out _).mono ?_
 rintro e w' ⟨rfl, rfl⟩
 go_wp2
 go_ret
 exact ⟨rfl, rfl⟩
theorem zj7 (lo hi : Int) (w : World) (h0 : 0 <= lo) (hle : lo <= hi) (h1 : hi <= 255) :
  Calls Tryz.prog 215 #[.int .i64 lo, .int .i64 hi] w fun e w' => e = .returned (.tuple #[sv (spn lo hi), .int .i64 0]) /\ Below w.heap.size w w' := by
 have HH := hO (Holds.zero w)
 have HR := hO ((Below.refl w.heap.size w).alloc (Nat.le_refl _) (.cells #[.int .u64 0, .int .u64 0, .int .u64 0, .int .u64 0] 49))
 have H1 : Hid (∀ w, Calls Tryz.prog 218 #[.int .i64 lo, .int .i64 hi] w fun e w' => e = .returned (.bool true) /\ w' = w) := fun w => zi6 lo hi w h0 hle h1
 have H2 : Hid (∀ w, Calls Tryz.prog 183 #[.agg #[.int .u64 0, .int .u64 0, .int .u64 0, .int .u64 0], .int .i64 lo, .int .i64 hi] w fun e w' => e = .returned (sv (spn lo hi)) /\ Below w.heap.size w w') := fun w => zeb lo hi w h0 hle h1
 generalize spn lo hi = r at *
 go_enter Tryz.func215, Tryz.ntmps215
 go_wp2_with fail
 refine (H1.out _).mono ?_
 rintro e w1 ⟨rfl, rfl⟩
 go_wp2_with fail
 refine (H2.out _).mono ?_
 rintro e w2 ⟨rfl, hb⟩
 have HR2 := hO (HR.out.trans (hb.mono (by simp)))
 obtain ⟨l0, c0, c1, c2, c3, f0, f1, f2, f3⟩ := HH.out.below hb (by simp)
 clear hb
 go_wp2
 exact bodyPost_ret (v := .tuple #[sv r, .int .i64 0]) (by simp [results, Tryz.results215, go_sem, *]) rfl ⟨rfl, (((HR2.out.setCell (Nat.le_refl _) _).setCell (Nat.le_refl _) _).setCell (Nat.le_refl _) _).setCell (Nat.le_refl _) _⟩
def chr (s : ByteArray) (i : Nat) : Int := if h : i < s.size then (s[i].toNat : Int) else -1
theorem zai {s : ByteArray} {i : Nat} (h : i < s.size) : chr s i = (s[i].toNat : Int) := by unfold chr; rw [dif_pos h]
theorem zas {s : ByteArray} {i : Nat} (h : ¬ i < s.size) : chr s i = -1 := by unfold chr; rw [dif_neg h]
def zac (l : List Int) : ByteArray := l.foldl (fun r n => r.push (UInt8.ofNat n.toNat)) ByteArray.empty
theorem za0 (l : List Int) : (zac l).data.toList = l.map (fun n => UInt8.ofNat n.toNat) := by
 have key : ∀ (l : List Int) (s : ByteArray), (l.foldl (fun r n => r.push (UInt8.ofNat n.toNat)) s).data.toList = s.data.toList ++ l.map (fun n => UInt8.ofNat n.toNat) := by
  intro l
  induction l with
  | nil => intro s; simp
  | cons b l ih => intro s; rw [List.foldl_cons, ih]; simp [ByteArray.push]
 have := key l ByteArray.empty
 simpa [zac] using this
def By (l : List Int) : Prop := ∀ n ∈ l, 0 <= n /\ n <= 255
theorem zch (l : List Int) : zac l = ⟨(l.map fun n => UInt8.ofNat n.toNat).toArray⟩ := by
 have h := za0 l
 cases ht : zac l with
 | mk d =>
  rw [ht] at h
  cases d with
  | mk x => simp at h; rw [h]
theorem zam (l : List Int) : (zac l).size = l.length := by
 rw [zch]; show (List.toArray _).size = _; simp
def cp (n : Int) : Prop := 0 <= n /\ n <= 1114111 /\ ¬ (55296 <= n /\ n <= 57343)
abbrev enL (n : Int) : List Int := Lib.encodeRuneZ n
theorem enL_by (n : Int) : By (enL n) := fun x hx => by have := Lib.encodeRuneZ_byte n x hx; omega
theorem zfF {r : Int} (h0 : 0 <= r) (h1 : r <= 127) : enL r = [r] := Lib.encodeRuneZ_one h0 h1
theorem zfG {r : Int} (h0 : 128 <= r) (h1 : r <= 2047) : enL r = [192 + r / 64, 128 + r % 64] := Lib.encodeRuneZ_two h0 h1
theorem zdg {r : Int} (h : (2048 <= r /\ r < 55296) ∨ (57343 < r /\ r <= 65535)) : enL r = [224 + r / 4096, 128 + r / 64 % 64, 128 + r % 64] := Lib.encodeRuneZ_three h
theorem zdY {r : Int} (h0 : 65536 <= r) (h1 : r <= 1114111) : enL r = [240 + r / 262144, 128 + r / 4096 % 64, 128 + r / 64 % 64, 128 + r % 64] := Lib.encodeRuneZ_four h0 h1
theorem zfH {r : Int} (h : cp r) : (0 <= r /\ r <= 127) ∨ (128 <= r /\ r <= 2047) ∨ ((2048 <= r /\ r < 55296) ∨ (57343 < r /\ r <= 65535)) ∨ (65536 <= r /\ r <= 1114111) := by
 unfold cp at h; omega
def szI (n : Int) : Nat := if n <= 127 then 1 else if n <= 2047 then 2 else if n <= 65535 then 3 else 4
theorem zfI {r : Int} (h : cp r) : (enL r).length = szI r := by
 unfold szI
 rcases zfH h with q | q | q | q
 ·rw [zfF q.1 q.2, if_pos (by omega)]; rfl
 ·rw [zfG q.1 q.2, if_neg (by omega), if_pos (by omega)]; rfl
 ·rw [zdg q, if_neg (by omega), if_neg (by omega), if_pos (by omega)]; rfl
 ·rw [zdY q.1 q.2, if_neg (by omega), if_neg (by omega), if_neg (by omega)]; rfl
theorem zfk (n : Int) : 1 <= szI n /\ szI n <= 4 := by
 unfold szI
 repeat' split
 all_goals omega
theorem ba_ext {a b : ByteArray} (h : a.data.toList = b.data.toList) : a = b := by
 cases a with | mk x => cases b with | mk y => cases x with | mk l => cases y with | mk m => simp at h; rw [h]
theorem zgA {r : Int} (h : cp r) : Utf8.encode r = zac (enL r) := by
 have hv : Utf8.valid r = true := by rw [validRune_eq]; unfold validRune; unfold cp at h; exact decide_eq_true (by omega)
 apply ba_ext
 rw [za0]
 unfold Utf8.encode
 simp only [hv, if_true]
 rcases zfH h with q | q | q | q
 ·rw [zfF q.1 q.2, if_pos (by omega)]; rfl
 ·rw [zfG q.1 q.2, if_neg (by omega), if_pos (by omega)]
  simp only [List.map_cons, List.map_nil]
  rw [show (192 + r / 64).toNat = 192 + r.toNat / 64 from by omega, show (128 + r % 64).toNat = 128 + r.toNat % 64 from by omega]
 ·rw [zdg q, if_neg (by omega), if_neg (by omega), if_pos (by omega)]
  simp only [List.map_cons, List.map_nil]
  rw [show (224 + r / 4096).toNat = 224 + r.toNat / 4096 from by omega, show (128 + r / 64 % 64).toNat = 128 + r.toNat / 64 % 64 from by omega, show (128 + r % 64).toNat = 128 + r.toNat % 64 from by omega]
 ·rw [zdY q.1 q.2, if_neg (by omega), if_neg (by omega), if_neg (by omega)]
  simp only [List.map_cons, List.map_nil]
  rw [show (240 + r / 262144).toNat = 240 + r.toNat / 262144 from by omega, show (128 + r / 4096 % 64).toNat = 128 + r.toNat / 4096 % 64 from by omega, show (128 + r / 64 % 64).toNat = 128 + r.toNat / 64 % 64 from by omega, show (128 + r % 64).toNat = 128 + r.toNat % 64 from by omega]
theorem zi7 {l : List Int} (hb : By l) (k : Nat) : chr (zac l) k = (l[k]?).getD (-1) := by
 by_cases hk : k < l.length
 ·have h1 : k < (zac l).size := by rw [zam]; exact hk
  rw [zai h1, List.getElem?_eq_getElem hk]
  have e1 : (zac l).data.toList[k]? = some (zac l)[k] := by rw [List.getElem?_eq_getElem (by simpa using h1)]; rfl
  rw [za0, List.getElem?_map, List.getElem?_eq_getElem hk] at e1
  have e2 : UInt8.ofNat (l[k]).toNat = (zac l)[k] := Option.some.inj e1
  rw [<- e2]
  have := hb _ (List.getElem_mem hk)
  rw [UInt8.toNat_ofNat', Nat.mod_eq_of_lt (by omega)]
  simp; omega
 ·rw [zas (by rw [zam]; exact hk), List.getElem?_eq_none (by omega)]; rfl
theorem zi8 {r : Int} (h : cp r) : Lib.runeLen r = (szI r : Int) := by
 unfold Lib.runeLen szI
 unfold cp at h
 repeat' split
 all_goals omega
def bdB (n : Int) : Bool := decide (0 <= n /\ n <= 1114111)
theorem ze0 {n : Int} (h : 0 <= n /\ n <= 1114111) : bdB n = true := decide_eq_true h
theorem zi9 {n : Int} (h : ¬ (0 <= n /\ n <= 1114111)) : bdB n = false := decide_eq_false h
end Go.Proofs.YtnpifgcgjgddoaaGreatDoor.R
