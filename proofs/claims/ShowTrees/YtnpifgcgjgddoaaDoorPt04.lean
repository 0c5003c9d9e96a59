/- DERIVED. Plain mathematics and walks, laid together (4). -/
import Derived.Deep.RegionHeld3
import Derived.Deep.AppendLies
import Derived.Maps.Range
import Derived.OwnWalk
import Derived.Lib.Builder
import Derived.Shelf.Abstract
import Derived.Laws.AppendOwnNone
import Derived.Test.YtnpifgcgjgddoaaDoorPt03
namespace Go.Proofs.YtnpifgcgjgddoaaDoor.T
open Go.RowKit
theorem Below.grow {w w' : World} (hb : Below w.heap.size w w') (row : Option Nat) : w.grownBy w' row := ⟨hb.os, hb.tape, hb.output, hb.size, fun k hk _ => hb.block k hk⟩
theorem own_below {w w' : World} {base e size : Nat} {v : Value} {n : Nat} {xs : List Value} (h : w.ownsRow base e size v n xs) (hb : Below w.heap.size w w') : w'.ownsRow base e size v n xs := by
  refine h.kept (row := none) (Below.grow hb none) ?_
  cases h2 : v.ownBlock
  · exact .inl rfl
  · exact .inr (by simp)
theorem own_cut {w : World} {base e size g n cap : Nat} {xs : List Value} (h : w.ownsRow base e size (.slice (some ⟨g, 0, none⟩) n cap) n xs) {m : Nat} (hm : m ≤ n) : w.ownsRow base e size (.slice (some ⟨g, 0, none⟩) m cap) m (xs.take (m * size)) := by
  obtain ⟨h1, h2⟩ := h
  rcases h2 with ⟨h2, _⟩ | ⟨g', cap', cur, h3, h4, h5, h6, h7, h8, h9⟩
  · cases h2
  · cases h3
    have hmul : m * size ≤ n * size := Nat.mul_le_mul_right _ hm
    refine ⟨by rw [List.length_take]; omega, .inr ⟨g, cap, cur, rfl, h4, h5, by omega, h7, h8, ?_⟩⟩
    rw [← h9, List.take_take]
    congr 1
    omega

/-- All but some blocks stay. -/
structure Kp (X : Nat → Prop) (w w' : World) : Prop where
  os : w'.os = w.os
  tape : w'.tape = w.tape
  output : w'.output = w.output
  size : w.heap.size ≤ w'.heap.size
  block : ∀ b, b < w.heap.size → ¬ X b → w'.heap[b]? = w.heap[b]?
theorem own_kp {w w' : World} {X : Nat → Prop} {base e size : Nat} {v : Value} {n : Nat} {xs : List Value} (h : w.ownsRow base e size v n xs) (hk : Kp X w w') (hd : ∀ g, v.ownBlock = some g → ¬ X g) : w'.ownsRow base e size v n xs := by
  refine ⟨h.1, ?_⟩
  rcases h.2 with hn | ⟨g, cap, cur, rfl, hb, hgg, rest⟩
  · exact .inl hn
  · refine .inr ⟨g, cap, cur, rfl, hb, ?_, rest⟩
    rw [hk.block g (Array.getElem?_eq_some_iff.1 hgg).1 (hd g rfl)]
    exact hgg

theorem ptc_get (l : List Pt) (j : Nat) (p : Pt) (h : l[j]? = some p) : ∀ i, i < 3 → (ptc l)[j * 3 + i]? = (ptV p)[i]? := by
  induction l generalizing j with
  | nil => cases h
  | cons a l ih =>
    intro i hi
    have e : ptc (a :: l) = ptV a ++ ptc l := rfl
    rw [e]
    cases j with
    | zero =>
      cases h
      rw [Nat.zero_mul, Nat.zero_add, List.getElem?_append_left (by show i < 3; exact hi)]
    | succ j =>
      have h2 : l[j]? = some p := by simpa using h
      have e7 : (ptV a).length = 3 := rfl
      rw [List.getElem?_append_right (by rw [e7]; omega), e7, show (j + 1) * 3 + i - 3 = j * 3 + i from by omega]
      exact ih j h2 i hi
abbrev ptG (p : Pt) : Value := .agg #[.int .i64 p.1, .int .i64 p.2.1, .int .i64 p.2.2]
theorem info_parts {P : Program} {t : TypeId} {z : Option Value} {s b : Nat} (h : (P.info? t).map (fun i => (i.zero, i.size, i.bytes)) = some (z, s, b)) : ∃ i, P.info? t = some i ∧ i.zero = z ∧ i.size = s ∧ i.bytes = b := by
  cases hi : P.info? t with
  | none => rw [hi] at h; cases h
  | some i => rw [hi] at h; simp only [Option.map_some, Option.some.injEq, Prod.mk.injEq] at h; exact ⟨i, rfl, h.1, h.2.1, h.2.2⟩
theorem Tryd.info59 : (Tryd.prog.info? 55).map (fun i => (i.zero, i.size, i.bytes)) = some (some (.agg #[.int .i64 0, .int .i64 0, .int .i64 0]), 3, 24) := by kernel_rfl
theorem kp_below {X : Nat → Prop} {Bc : Nat} {w w4 wA : World} (h : Below Bc w w4) (hk : Kp X w4.drew wA) (hx : ∀ b, X b → Bc ≤ b) (hB : Bc ≤ w4.heap.size) : Below Bc w wA :=
  ⟨hk.os.trans h.drew.os, hk.tape.trans h.drew.tape, hk.output.trans h.drew.output, Nat.le_trans h.size hk.size, fun b hb => (hk.block b (Nat.lt_of_lt_of_le hb hB) (fun q => by have := hx b q; omega)).trans (h.block b hb)⟩
theorem own_drew {w : World} {base e size : Nat} {v : Value} {n : Nat} {xs : List Value} (h : w.ownsRow base e size v n xs) : w.drew.ownsRow base e size v n xs := own_below h ((Below.refl _ _).drew)
/-- What a function that is handed each node keeps to. -/
structure See (L : List Nd) (F : Nat) (caps : Array Value) (Bc B : Nat) (J : Nat → (Nat → Prop) → World → Prop) : Prop where
  kept : ∀ k X w w', J k X w → w.heap.size ≤ w'.heap.size → (∀ b, (b < B ∨ X b) → w'.heap[b]? = w.heap[b]?) → J k X w'
  far : ∀ k X w, J k X w → ∀ b, X b → Bc ≤ b ∧ b < w.heap.size
  call : ∀ k X w A c, J k X w → B ≤ w.heap.size → k < L.length → (∀ j, j ≤ k → er L j = 0) → RdP w A ((run L k).take (arN (opAt L k))).reverse → (∀ a, A = some a → ¬ X a.block) →
    Calls Tryd.prog F (#[ptG (pt L k), .slice A (arN (opAt L k)) c] ++ caps) w fun e w' => (∃ u, e = .returned u) ∧ ∃ X', J (k + 1) X' w' ∧ Kp X w w' ∧ ∀ b, X' b → X b ∨ w.heap.size ≤ b

structure AtT (L : List Nd) (J : Nat → (Nat → Prop) → World → Prop) (Bc : Nat) (w wr : World) (k : Nat) (X : Nat → Prop) (v : Value) : Prop where
  o : wr.ownsRow w.heap.size 55 3 v (run L k).length (ptc (run L k).reverse)
  j : J k X wr
  d : ∀ g, v.ownBlock = some g → ¬ X g
  b : Below Bc w wr
  e : ∀ j, j < k → er L j = 0
theorem AtT.below {L : List Nd} {F : Nat} {caps : Array Value} {J : Nat → (Nat → Prop) → World → Prop} {Bc : Nat} {w wr w2 : World} {k : Nat} {X : Nat → Prop} {v : Value} (h : AtT L J Bc w wr k X v) (hs : See L F caps Bc w.heap.size J) (hB : Bc ≤ w.heap.size) (hb : Below wr.heap.size wr w2) : AtT L J Bc w w2 k X v :=
  ⟨own_below h.o hb, hs.kept k X wr w2 h.j hb.size (fun b hx => hb.block b (by
    rcases hx with q | q
    · exact Nat.lt_of_lt_of_le q h.b.size
    · exact (hs.far _ _ _ h.j b q).2)), h.d, h.b.trans (hb.mono (Nat.le_trans hB h.b.size)), h.e⟩

set_option maxRecDepth 100000 in
set_option maxHeartbeats 16000000 in
theorem through_any (L : List Nd) (F : Nat) (caps : Array Value) (J : Nat → (Nat → Prop) → World → Prop) (Ap : Option Addr) (cp Bc : Nat) (hL : L.length ≤ 140737488355328) (hT : ∀ n ∈ L, n.tx.size ≤ 140737488355328) (w : World) (hB : Bc ≤ w.heap.size) (hp : RdN w Ap L) (hpb : L ≠ [] → ∀ a, Ap = some a → a.block < Bc) (he : ∀ args w, (callFunc F args).run Tryd.prog w = .ok (.enter F args) w) (hs : See L F caps Bc w.heap.size J) (X0 : Nat → Prop) (h0 : J 0 X0 w) :
    Calls Tryd.prog 17 #[.slice Ap L.length cp, .func (.func F) #[] caps] w fun e w' => e = .returned (.tuple #[.int .i64 (ck L).1, .int .i64 (ck L).2]) ∧ Below Bc w w' ∧ ∃ k X, J k X w' ∧ ((ck L).2 = 0 → k = L.length) := by
  by_cases hlong : 2048 < L.length
  · have HE := (show Hid (ck L = (0, 2)) from ck_long hlong)
    have z : (2048 : Int) < (L.length : Int) := by omega
    have HJ := (show Hid (J 0 X0 w) from h0)
    clear hT hp hpb hs h0 he
    go_enter Tryd.func17, Tryd.ntmps17
    go_wp2_with fail
    go_ret2
    exact ⟨by rw [HE.out]; rfl, Below.refl _ _, 0, X0, HJ.out, fun q => by rw [HE.out] at q; cases q⟩
  have z : ¬ (2048 : Int) < (L.length : Int) := by omega
  have HS := (show Hid (See L F caps Bc w.heap.size J) from hs)
  have HB := (show Hid (Bc ≤ w.heap.size) from hB)
  have HP := (show Hid (RdN w Ap L) from hp)
  have HPb := (show Hid (L ≠ [] → ∀ a, Ap = some a → a.block < Bc) from hpb)
  have HA := (show Hid (AtT L J Bc w w 0 X0 (.slice none 0 0)) from ⟨World.ownsRow_nil _ _ _ _, h0, fun g q => by simp [Value.ownBlock] at q, Below.refl _ _, fun j q => by omega⟩)
  have HG := (show Hid (∀ k, k < L.length → ∃ n, L[k]? = some n ∧ n.tx.size ≤ 140737488355328 ∧ L ≠ []) from fun k hk => ⟨_, List.getElem?_eq_getElem hk, hT _ (List.getElem_mem hk), by rintro rfl; simp at hk⟩)
  have HN := (show Hid (¬ 2048 < L.length) from hlong)
  clear hT hp hpb hs h0 hB hlong
  obtain ⟨i0, hinf, hz0, hz1, hz2⟩ := info_parts Tryd.info59
  go_enter Tryd.func17, Tryd.ntmps17
  go_wp2_with fail
  go_loopw [6, 17] (fun v t wr => ∃ k : Nat, ∃ X, k ≤ L.length ∧ t = .int .i64 k ∧ Hid (AtT L J Bc w wr k X v)) (fun _ t _ => L.length - (intOf t).toNat)
  case atStart => exact ⟨0, X0, by omega, by go_num, HA⟩
  case round =>
    obtain ⟨k, X, hk, rfl, HW⟩ := hrel
    clear HA
    by_cases hlt : k < L.length
    · obtain ⟨n, hn, htx, hne⟩ := HG.out k hlt
      obtain ⟨gp, op, rfl, lp, cl⟩ := HP.out hne
      have hgb := HPb.out hne _ rfl
      have HNn := (show Hid (L[k]? = some n) from hn)
      have HAl : Hid (∀ w, Calls Tryd.prog 26 #[ndG n] w fun e w' => e = .returned (.int .i64 (alE n)) ∧ Below w.heap.size w w') := fun w => alone_any n htx w
      have HAr : Hid (∀ w, Calls Tryd.prog 27 #[.int .i64 n.op] w fun e w' => e = .returned (.int .i64 (ar n.op)) ∧ w' = w) := fun w => arity_any n.op w
      obtain ⟨c0, c1, c2, c3, c4, c5, c6⟩ := (cl.same (HW.out.b.block gp hgb)) k n hn
      have z0 : (0 : Int) ≤ (k : Int) := by omega
      have z1 : (k : Int) < (L.length : Int) := by omega
      have HCl := (show Hid (NdL w gp op L) from cl)
      have HXlt := (show Hid (∀ b, X b → b < wr.heap.size) from fun b hb => (HS.out.far _ _ _ HW.out.j b hb).2)
      have hwr2 : wr.heap.size ≤ wr.heap.size := Nat.le_refl _
      clear hn hne cl HG
      go_wp2_with fail
      refine (HAl.out _).mono ?_
      rintro e w2 ⟨rfl, b2⟩
      clear HAl c0 c1 c2 c3 c4 c5 c6
      have HBox := (show Hid (NB w2 wr.heap.size 0 n) from (nb_new wr n).below b2)
      have HW2 := (show Hid (AtT L J Bc w w2 k X _) from HW.out.below HS.out HB.out ((below_box wr (ndO n)).trans (b2.mono (below_box _ _).size)))
      have hsz2 : wr.heap.size ≤ w2.heap.size := Nat.le_trans (below_box wr (ndO n)).size b2.size
      clear b2 HW hwr2
      have hJn := HN.out
      by_cases hal : alE n = 0
      · have ta : (alE n != 0) = false := by rw [hal]; rfl
        have hrn := arN_of hal
        have HQ : Hid (er L k = if (run L k).length < arN n.op then 42 else if 60 < (pt L k).2.2 then 4 else 0) := (by show er L k = _; rw [er_of HNn.out, if_neg (by rw [hal]; simp)])
        have hlen := run_len L k
        have har := ar_hi n.op
        obtain ⟨A, cA, hv, hAo⟩ : ∃ A c, u6 = .slice A (run L k).length c ∧ (A = none ∧ run L k = [] ∧ c = 0 ∨ ∃ g, A = some ⟨g, 0, none⟩ ∧ g < w2.heap.size ∧ (run L k).length ≤ c) := by
          rcases HW2.out.o.2 with ⟨q1, q2⟩ | ⟨g, cap, cur, q1, q2, q3, q4, _⟩
          · exact ⟨none, 0, by rw [q1, q2], .inl ⟨rfl, List.eq_nil_of_length_eq_zero q2, rfl⟩⟩
          · exact ⟨_, cap, q1, .inr ⟨g, rfl, (Array.getElem?_eq_some_iff.1 q3).1, q4⟩⟩
        subst hv
        have b0 := HBox.out.c0
        rw [← hrn] at HAr
        rw [← hrn] at har
        generalize hrl : (run L k).length = m at *
        have HRl := (show Hid ((run L k).length = m) from hrl)
        have HAo := (show Hid _ from hAo)
        clear hAo hal hrl hrn
        generalize alE n = ea at *
        by_cases hfew : m < arN n.op
        · have HE := (show Hid (ck L = (k, 42)) from (by
            show ck L = _
            have e : er L k = 42 := by rw [HQ.out, if_pos hfew]
            rw [ck_bad hJn hlt HW2.out.e (by rw [e]; decide), e]))
          have zf : decide ((m : Int) - (arN n.op : Int) < 0) = true := decide_eq_true (by omega)
          have HBb := (show Hid (Below Bc w w2) from HW2.out.b)
          have HJ := (show Hid (J k X w2) from HW2.out.j)
          clear HQ HW2 HNn HS HB HP HPb HN HRl HAo
          go_wp2_with fail
          refine (HAr.out _).mono ?_
          rintro e w2 ⟨rfl, rfl⟩
          clear HAr HBox
          generalize arN n.op = aa at *
          go_wp2_with fail
          go_ret2
          exact ⟨by rw [HE.out]; rfl, HBb.out, k, X, HJ.out, fun q => by rw [HE.out] at q; cases q⟩
        · obtain ⟨r, hr⟩ : ∃ r, r + arN n.op = m := ⟨m - arN n.op, by omega⟩
          have HM := (show Hid (er L k = if 60 < (pt L k).2.2 then 4 else 0) from (by show er L k = _; rw [HQ.out, if_neg hfew]))
          have hrd := run_bd hk HW2.out.e
          obtain ⟨xs, hxs⟩ : ∃ xs, ((run L k).take (arN n.op)).reverse = xs := ⟨_, rfl⟩
          have hxl : xs.length = arN n.op := by rw [← hxs, List.length_reverse, List.length_take, HRl.out]; omega
          have hxb : ∀ x ∈ xs, x.1 ≤ 2048 ∧ x.2.1 < L.length ∧ x.2.2 ≤ 100 := fun x hx => by
            rw [← hxs] at hx
            obtain ⟨q1, q2, q3, _⟩ := hrd x (List.mem_of_mem_take (List.mem_reverse.1 hx))
            exact ⟨by omega, by omega, by omega⟩
          have hpm : pw L k n.op xs xs.length = pt L k := by
            rw [hxl, ← hxs, pw_mk L k n.op (run L k) (by rw [HRl.out]; omega)]
            unfold pt
            rw [op_of HNn.out]
          obtain ⟨A2, hA2, hA2r, hA2b⟩ : ∃ A2, (if cA = r then A else Option.map (fun x => x.add (r * 3)) A) = A2 ∧ RdP w2 A2 xs ∧ ∀ a, A2 = some a → ¬ X a.block ∧ a.block < w2.heap.size := by
            refine ⟨_, rfl, ?_, ?_⟩
            · intro hx0
              have ha0 : 0 < arN n.op := by rw [← hxl]; exact List.length_pos_iff.2 hx0
              rcases HAo.out with ⟨q1, q2, q3⟩ | ⟨g, q1, q2, q3⟩
              · have := HRl.out; rw [q2] at this; simp at this; omega
              · have hc : ¬ cA = r := by omega
                rw [if_neg hc, q1]
                refine ⟨g, r * 3, by rw [Option.map_some, Addr.add_lit, Nat.zero_add], q2, ?_⟩
                intro j p hj
                have hcl := HW2.out.o.cells (g := g) (by rw [q1]; rfl)
                have hj2 : (run L k).reverse[r + j]? = some p := by
                  have := rev_drop (run L k) (arN n.op) (by rw [HRl.out]; omega)
                  rw [hxs, HRl.out, show m - arN n.op = r from by omega] at this
                  rw [← this, List.getElem?_drop] at hj
                  exact hj
                have key : ∀ i u, i < 3 → (ptV p)[i]? = some u → w2.cell? ⟨g, (r + j) * 3 + i, none⟩ = some u := fun i u hi hu => by
                  have := hcl ((r + j) * 3 + i) u (by rw [ptc_get _ _ _ hj2 i hi]; exact hu)
                  rwa [Addr.add_lit, Nat.zero_add] at this
                have e3 : r * 3 + j * 3 = (r + j) * 3 := by omega
                rw [e3]
                exact ⟨key 0 _ (by omega) rfl, key 1 _ (by omega) rfl, key 2 _ (by omega) rfl⟩
            · intro a ha
              rcases HAo.out with ⟨q1, q2, q3⟩ | ⟨g, q1, q2, q3⟩
              · rw [q1] at ha; split at ha <;> cases ha
              · rw [q1] at ha
                have hX := HW2.out.d g (by rw [q1]; rfl)
                split at ha
                · cases ha; exact ⟨hX, q2⟩
                · rw [Option.map_some, Addr.add_lit] at ha; cases ha; exact ⟨hX, q2⟩
          have HAb : Hid (∀ W, Below w2.heap.size w2 W → Calls Tryd.prog 28 #[.slice (some ⟨gp, op, none⟩) L.length cp, .int .i64 k, .slice A2 (arN n.op) (cA - r)] W fun e w' => e = .returned (ptG (pt L k)) ∧ Below W.heap.size W w') := fun W hW => by
            have h := above_any L (some ⟨gp, op, none⟩) cp k n HNn.out (by omega) A2 (cA - r) xs (by rw [hxl]; exact arN_le _) hxb W (fun _ => ⟨gp, op, rfl, Nat.lt_of_lt_of_le lp (Nat.le_trans HW2.out.b.size hW.size), (HCl.out.same (HW2.out.b.block gp hgb)).same (hW.block gp (Nat.lt_of_lt_of_le lp HW2.out.b.size))⟩) (hA2r.below hW (Nat.le_refl _))
            rw [hxl] at h
            rw [hxl] at hpm
            rw [hpm] at h
            exact h
          have HR2 := (show Hid (RdP w2 A2 xs ∧ ∀ a, A2 = some a → ¬ X a.block ∧ a.block < w2.heap.size) from ⟨hA2r, hA2b⟩)
          have HX := (show Hid (((run L k).take (arN n.op)).reverse = xs) from hxs)
          clear hA2r hA2b hxs hxb hrd hpm HQ hfew hxl
          have hsub : (m : Int) - (arN n.op : Int) = (r : Int) := by omega
          have hmr : m - r = arN n.op := by omega
          have zr : (r : Int) ≤ (m : Int) := by omega
          go_wp2_with fail
          refine (HAr.out _).mono ?_
          rintro e w2 ⟨rfl, rfl⟩
          clear HAr
          have HOp := (show Hid (opAt L k = n.op) from op_of HNn.out)
          have HAx := (show Hid (arN n.op ≤ 2 ∧ r + arN n.op = m) from ⟨arN_le _, hr⟩)
          clear hr
          generalize haa : arN n.op = aa at *
          have HAa := (show Hid (arN n.op = aa) from haa)
          clear haa
          go_wp2_with fail
          refine (HAb.out _ (Below.refl _ _)).mono ?_
          rintro e w3 ⟨rfl, b3⟩
          have hsz3 : w2.heap.size ≤ w3.heap.size := b3.size
          clear HAb
          have HB3 := (show Hid (Below w2.heap.size w2 (w3.alloc (.cells #[.int .i64 (pt L k).1, .int .i64 (pt L k).2.1, .int .i64 (pt L k).2.2] 55))) from b3.alloc b3.size _)
          have HP3 := (show Hid (PB (w3.alloc (.cells #[.int .i64 (pt L k).1, .int .i64 (pt L k).2.1, .int .i64 (pt L k).2.2] 55)) w3.heap.size (pt L k).1 (pt L k).2.1 (pt L k).2.2) from PB.new _ _ _ _)
          by_cases hd : 60 < (pt L k).2.2
          · have HE := (show Hid (ck L = (k, 4)) from (by
              show ck L = _
              have e : er L k = 4 := by rw [HM.out, if_pos hd]
              rw [ck_bad hJn hlt HW2.out.e (by rw [e]; decide), e]))
            have zd : (60 : Int) < ((pt L k).2.2 : Int) := by omega
            have HBb := (show Hid (Below Bc w (w3.alloc (.cells #[.int .i64 (pt L k).1, .int .i64 (pt L k).2.1, .int .i64 (pt L k).2.2] 55))) from HW2.out.b.trans (HB3.out.mono (Nat.le_trans HB.out HW2.out.b.size)))
            have HJ := (show Hid (J k X (w3.alloc (.cells #[.int .i64 (pt L k).1, .int .i64 (pt L k).2.1, .int .i64 (pt L k).2.2] 55))) from (HW2.out.below HS.out HB.out HB3.out).j)
            clear HW2 HNn HS HB HP HPb HN HRl HAo HBox HB3 HP3 HM HR2 HX HOp HAx HAa b0 b3 HCl hA2 hmr hd
            generalize pt L k = P at *
            go_wp2_with fail
            go_ret2
            exact ⟨by rw [HE.out]; rfl, HBb.out, k, X, HJ.out, fun q => by rw [HE.out] at q; cases q⟩
          · have HE0 := (show Hid (er L k = 0) from (by show er L k = _; rw [HM.out, if_neg hd]))
            have zd : ¬ (60 : Int) < ((pt L k).2.2 : Int) := by omega
            have HW3 := (show Hid (AtT L J Bc w _ k X _) from HW2.out.below HS.out HB.out HB3.out)
            have HR3 := (show Hid (RdP (w3.alloc (.cells #[.int .i64 (pt L k).1, .int .i64 (pt L k).2.1, .int .i64 (pt L k).2.2] 55)) A2 xs) from HR2.out.1.below HB3.out (Nat.le_refl _))
            have HD3 := (show Hid (∀ a, A2 = some a → ¬ X a.block) from fun a ha => (HR2.out.2 a ha).1)
            clear HR2 HM HNn HP HPb HCl b3 HW2
            have HPt := (show Hid (run L (k + 1) = pt L k :: (run L k).drop aa) from by show run L (k + 1) = _; rw [run_succ, HOp.out, HAa.out])
            have HCall : Hid (∀ W, Below (w3.alloc (.cells #[.int .i64 (pt L k).1, .int .i64 (pt L k).2.1, .int .i64 (pt L k).2.2] 55)).heap.size (w3.alloc (.cells #[.int .i64 (pt L k).1, .int .i64 (pt L k).2.1, .int .i64 (pt L k).2.2] 55)) W →
                Calls Tryd.prog F (#[ptG (pt L k), .slice A2 aa (cA - r)] ++ caps) W fun e w' => (∃ u, e = .returned u) ∧ ∃ X', J (k + 1) X' w' ∧ Kp X W w' ∧ ∀ b, X' b → X b ∨ W.heap.size ≤ b) := fun W hW => by
              have hat := HW3.out.below HS.out HB.out hW
              have h := HS.out.call k X W A2 (cA - r) hat.j hat.b.size hlt (fun j hj => by
                by_cases q : j < k
                · exact hat.e j q
                · obtain rfl : j = k := by omega
                  exact HE0.out) (by rw [HOp.out, HAa.out, HX.out]; exact HR3.out.below hW (Nat.le_refl _)) HD3.out
              rw [HOp.out, HAa.out] at h
              exact h
            have k0 := HP3.out.c0
            have k1 := HP3.out.c1
            have k2 := HP3.out.c2
            generalize hw4 : w3.alloc (.cells #[.int .i64 (pt L k).1, .int .i64 (pt L k).2.1, .int .i64 (pt L k).2.2] 55) = w4 at *
            clear HB3
            have HKb := (show Hid (∀ W, Kp X w4.drew W → PB W w3.heap.size (pt L k).1 (pt L k).2.1 (pt L k).2.2) from fun W hW => HP3.out.same (hW.block _ HP3.out.lt (fun q => by have := HXlt.out _ q; omega)))
            go_wp2_with fail
            go_region_held3 (fun W => W.cell? ⟨w3.heap.size, 0, none⟩ = some (.int .i64 (pt L k).1) ∧ W.cell? ⟨w3.heap.size, 1, none⟩ = some (.int .i64 (pt L k).2.1) ∧ W.cell? ⟨w3.heap.size, 2, none⟩ = some (.int .i64 (pt L k).2.2))
              (first | go_keep | exact ⟨(HKb.out _ hkp).c0, (HKb.out _ hkp).c1, (HKb.out _ hkp).c2⟩)
              ((with_reducible refine (HCall.out _ ((Below.refl _ _).drew)).mono ?_; rintro e wA ⟨⟨u, rfl⟩, X', hj, hkp, hx⟩))
            rename_i hHeld
            have HOw := (show Hid (wA.ownsRow w.heap.size 55 3 (.slice A m cA) m (ptc (run L k).reverse)) from own_kp (own_drew (by have ho := HW3.out.o; rw [HRl.out] at ho; exact ho)) hkp HW3.out.d)
            have HXx := (show Hid (∀ g, (Value.slice A m cA).ownBlock = some g → w.heap.size ≤ g ∧ g < wA.heap.size ∧ ¬ X' g) from fun g hg => by
              obtain ⟨q1, q2⟩ := HOw.out.lt g hg
              refine ⟨q1, q2, fun q => ?_⟩
              rcases hx g q with q | q
              · exact HW3.out.d g hg q
              · have := (HW3.out.o.lt g hg).2
                have e : w4.drew.heap.size = w4.heap.size := rfl
                omega)
            have HBA := (show Hid (Below Bc w wA) from kp_below HW3.out.b hkp (fun b q => (HS.out.far _ _ _ HW3.out.j b q).1) (Nat.le_trans HB.out HW3.out.b.size))
            have HPA := (show Hid (PB wA w3.heap.size (pt L k).1 (pt L k).2.1 (pt L k).2.2) from HKb.out _ hkp)
            have HJA := (show Hid (J (k + 1) X' wA) from hj)
            have HEe := (show Hid (∀ j, j < k + 1 → er L j = 0) from fun j hj => by
                by_cases q : j < k
                · exact HW3.out.e j q
                · obtain rfl : j = k := by omega
                  exact HE0.out)
            have HOc : Hid (wA.ownsRow w.heap.size 55 3 (.slice A r cA) r (ptc ((run L k).drop aa).reverse)) := by
              show wA.ownsRow _ _ _ _ _ _
              have hre := rev_take (run L k) aa (by rw [HRl.out]; omega)
              rw [HRl.out, show m - aa = r from by omega] at hre
              have hpt : (ptc (run L k).reverse).take (r * 3) = ptc ((run L k).drop aa).reverse := by
                rw [← hre]
                have e := ptc_append ((run L k).reverse.take r) ((run L k).reverse.drop r)
                rw [List.take_append_drop] at e
                rw [e, List.take_append_of_le_length (by rw [ptc_len, List.length_take, List.length_reverse, HRl.out]; omega)]
                exact List.take_of_length_le (by rw [ptc_len, List.length_take, List.length_reverse, HRl.out]; omega)
              rcases HAo.out with ⟨q1, q2, q3⟩ | ⟨g, q1, q2, q3⟩
              · have hm0 : m = 0 := by have := HRl.out; rw [q2] at this; simpa using this.symm
                have hr0 : r = 0 := by omega
                rw [q1, q2, q3, hr0]
                exact ⟨by simp [ptc], .inl ⟨rfl, rfl⟩⟩
              · have ho := HOw.out
                rw [q1] at ho ⊢
                have := own_cut ho (m := r) (by omega)
                rw [hpt] at this
                exact this
            clear hHeld hkp hx hj HKb HCall HW3 HOw HR3 HD3 HP3 HE0 HX hA2 hmr k0 k1 k2 hw4 HBox b0
            have zc : (r : Int) ≤ (cA : Int) := by
              rcases HAo.out with ⟨q1, q2, q3⟩ | ⟨g, q1, q2, q3⟩
              · have := HRl.out; rw [q2] at this; have hm0 : m = 0 := by simpa using this.symm
                omega
              · omega
            have hra : (if cA = 0 then A else Option.map (fun x => x.add 0) A) = A := by
              rcases HAo.out with ⟨q1, q2, q3⟩ | ⟨g, q1, q2, q3⟩
              · rw [q1]; split <;> rfl
              · rw [q1]; split
                · rfl
                · rw [Option.map_some, Addr.add_lit]
            have hrm : r ≤ 2048 := by omega
            have hO := HOc.out
            have hbs := HBA.out.size
            have k0 := HPA.out.c0
            have k1 := HPA.out.c1
            have k2 := HPA.out.c2
            have HK := (show Hid (∀ W, (wA.alloc (.cells #[.int .i64 (pt L k).1, .int .i64 (pt L k).2.1, .int .i64 (pt L k).2.2] 55)).drew.grownBy W (Value.slice A r cA).ownBlock → W.cell? ⟨w3.heap.size, 0, none⟩ = some (.int .i64 (pt L k).1) ∧ W.cell? ⟨w3.heap.size, 1, none⟩ = some (.int .i64 (pt L k).2.1) ∧ W.cell? ⟨w3.heap.size, 2, none⟩ = some (.int .i64 (pt L k).2.2)) from fun W hW => by
              have hne : some w3.heap.size ≠ (Value.slice A r cA).ownBlock := by
                rcases HAo.out with ⟨q1, q2, q3⟩ | ⟨g, q1, q2, q3⟩
                · rw [q1]; simp [Value.ownBlock]
                · rw [q1]; intro e
                  have e2 : w3.heap.size = g := Option.some.inj e
                  omega
              have hp := (HPA.out.alloc (.cells #[.int .i64 (pt L k).1, .int .i64 (pt L k).2.1, .int .i64 (pt L k).2.2] 55))
              have hp2 : PB W w3.heap.size (pt L k).1 (pt L k).2.1 (pt L k).2.2 := hp.same ((hW.block _ hp.lt hne))
              exact ⟨hp2.c0, hp2.c1, hp2.c2⟩)
            go_wp2_with fail
            go_region_held3 (fun W => W.cell? ⟨w3.heap.size, 0, none⟩ = some (.int .i64 (pt L k).1) ∧ W.cell? ⟨w3.heap.size, 1, none⟩ = some (.int .i64 (pt L k).2.1) ∧ W.cell? ⟨w3.heap.size, 2, none⟩ = some (.int .i64 (pt L k).2.2)) (first | go_keep | exact HK.out _ hgrow) ((refine step_append_lies _ (by rfl) _ _ _ (by rfl) w.heap.size 55 i0 _ 3 24 Tryd.underlying56 hinf hz0 hz1 hz2 rfl (by omega) _ _ (ptc ((run L k).drop aa).reverse) (by rfl) ((hO.alloc _).drew) ⟨wA.heap.size, 0, none⟩ 1 1 [.int .i64 (pt L k).1, .int .i64 (pt L k).2.1, .int .i64 (pt L k).2.2] (by rfl) (by rfl) (World.news_of_block (cs := #[.int .i64 (pt L k).1, .int .i64 (pt L k).2.1, .int .i64 (pt L k).2.2]) (t := 55) (fr := (0, 0)) (heap_alloc_new wA _)) (by simp [Value.oneCell']) (by omega) (by unfold maxLen; omega) (by omega) (by simp; omega) (wA.heap.size + 1) (by simp) ?_; intro g cap w5 hown1 hgrow hat hltg))
            all_goals
              have hob : (Value.slice A r cA).ownBlock = (Value.slice A m cA).ownBlock := by cases A <;> rfl
              rw [hob] at hgrow hat
              have hfar := HS.out.far _ _ _ HJA.out
              have HW5 := (show Hid (AtT L J Bc w w5 (k + 1) X' (.slice (some ⟨g, 0, none⟩) (r + 1) cap)) from (by
                have hrn : (run L (k + 1)).length = r + 1 := by rw [HPt.out, List.length_cons, List.length_drop, HRl.out]; omega
                have hg0 : ∀ j, (Value.slice A m cA).ownBlock = some j → w.heap.size ≤ j := fun j e => (HXx.out j e).1
                refine ⟨?_, ?_, ?_, ?_, HEe.out⟩
                · rw [hrn, HPt.out, List.reverse_cons, ptc_append]
                  exact hown1
                · refine HS.out.kept (k + 1) X' wA w5 HJA.out (Nat.le_trans (by simp) hgrow.size) (fun b hb => ?_)
                  have hlt : b < wA.heap.size := by
                    rcases hb with hb | hb
                    · omega
                    · exact (hfar b hb).2
                  have h1 := hgrow.block b (by show b < (wA.alloc (.cells #[.int .i64 (pt L k).1, .int .i64 (pt L k).2.1, .int .i64 (pt L k).2.2] 55)).heap.size; rw [World.size_alloc]; omega) (by
                    intro e
                    have h3 := HXx.out b e.symm
                    rcases hb with hb | hb
                    · omega
                    · exact h3.2.2 hb)
                  exact h1.trans ((below_box wA _).block b hlt)
                · intro j e q
                  have e2 : g = j := Option.some.inj e
                  subst e2
                  rcases hat with hat | hat
                  · exact (HXx.out g hat).2.2 q
                  · have := (hfar g q).2; omega
                · exact ((HBA.out.alloc (Nat.le_trans HB.out hbs) (.cells #[.int .i64 (pt L k).1, .int .i64 (pt L k).2.1, .int .i64 (pt L k).2.2] 55)).drew).grown hgrow (Nat.le_trans HB.out (Nat.le_trans hbs (below_box wA (.cells #[.int .i64 (pt L k).1, .int .i64 (pt L k).2.1, .int .i64 (pt L k).2.2] 55)).size)) (fun j e => Nat.le_trans HB.out (hg0 j e))))
              rename_i hHeld
              clear hHeld hown1 hgrow hat hltg hO HK hfar hob k0 k1 k2 HPA HJA HXx HOc HBA HEe hra zc HAo
              go_wp2_with fail
              go_roundw
              case rel => exact ⟨k + 1, X', by omega, by go_num, HW5⟩
              case measure => simp [intOf]; omega
      · have HE := (show Hid (ck L = (k, alE n)) from (by
          show ck L = _
          have e : er L k = alE n := by rw [er_of HNn.out, if_pos hal]
          rw [ck_bad hJn hlt HW2.out.e (by rw [e]; exact hal), e]))
        have ta : (alE n != 0) = true := by rw [bne, beq_eq_false_iff_ne.2 hal]; rfl
        have HBb := (show Hid (Below Bc w w2) from HW2.out.b)
        have HJ := (show Hid (J k X w2) from HW2.out.j)
        clear HW2 HNn HS HB HP HPb HN HBox HAr
        have HH := (show Hid (¬ alE n = 0) from hal)
        clear hal
        generalize alE n = ea at *
        go_wp2_with fail
        go_ret2
        exact ⟨by rw [HE.out]; rfl, HBb.out, k, X, HJ.out, fun q => by rw [HE.out] at q; exact absurd q HH.out⟩
    · obtain rfl : k = L.length := by omega
      have HE := (show Hid (ck L = if (run L L.length).length = 1 then (0, 0) else (L.length, 42)) from ck_end HN.out HW.out.e)
      obtain ⟨A, cA, hv⟩ : ∃ A c, u6 = .slice A (run L L.length).length c := by
        rcases HW.out.o.2 with ⟨q1, q2⟩ | ⟨g, cap, cur, q1, q2, q3, q4, _⟩
        · exact ⟨none, 0, by rw [q1, q2]⟩
        · exact ⟨_, cap, q1⟩
      subst hv
      have HJ := (show Hid (J L.length X wr) from HW.out.j)
      have HBw := (show Hid (Below Bc w wr) from HW.out.b)
      clear HW HS HB HP HPb HG HN
      generalize (run L L.length).length = m at *
      by_cases h1 : m = 1
      · have t1 : ((m : Int) != 1) = false := by rw [bne, beq_iff_eq.2 (by omega)]; rfl
        have HE2 := (show Hid (ck L = (0, 0)) from by show ck L = _; rw [HE.out, if_pos h1])
        clear h1 HE
        go_wp2_with fail
        go_ret2
        exact ⟨by rw [HE2.out]; rfl, HBw.out, L.length, X, HJ.out, fun _ => rfl⟩
      · have t1 : ((m : Int) != 1) = true := by rw [bne, beq_eq_false_iff_ne.2 (by omega)]; rfl
        have HE2 := (show Hid (ck L = (L.length, 42)) from by show ck L = _; rw [HE.out, if_neg h1])
        clear h1 HE
        go_wp2_with fail
        go_ret2
        exact ⟨by rw [HE2.out]; rfl, HBw.out, L.length, X, HJ.out, fun _ => rfl⟩
end Go.Proofs.YtnpifgcgjgddoaaDoor.T

namespace Go.Proofs.YtnpifgcgjgddoaaDoor.N
open Go.RowKit
set_option maxHeartbeats 1000000 in
set_option maxRecDepth 100000 in
theorem pg_fresh (b : Nat) (w : World) (h0 : w.cell? ⟨b, 0, none⟩ = some (.pointer none)) (hsh : w.shape? b = some (47, 2)) (hfz : w.frozen? ⟨b, 0, none⟩ = false) :
    Calls Tryd.prog 30 #[.pointer (some ⟨b, 0, none⟩)] w fun e w' => e = .returned (.tuple #[]) ∧ w' = w.setCell ⟨b, 0, none⟩ (.pointer (some ⟨b, 0, none⟩)) := by
  obtain ⟨j, hj, hjs⟩ := Option.map_eq_some_iff.1 Tryd.sizeB
  go_enter Tryd.func30, Tryd.ntmps30
  go_wp2
  rw [Lib.run_to_unsafe w ⟨b, 0, none⟩ Tryd.underlying42 Tryd.underlying85 hj (by rw [hjs]; decide) hsh (Nat.zero_lt_succ 1)]
  simp only [Result.andThen]
  rw [Oper.upon_value]
  go_wp2
  rw [run_callFunc_extern Tryd.func37 (by kernel_rfl) (by kernel_rfl) (by kernel_rfl) (e := Extern.AbiNoEscape.same) (by kernel_rfl)]
  rw [Lib.run_noEscape]
  simp only [Result.andThen]
  rw [Oper.upon_value]
  go_wp2
  rw [Lib.run_from_unsafe w ⟨b, 0, none⟩ Tryd.underlying85 Tryd.underlying42 hj hsh (by kernel_rfl)]
  simp only [Result.andThen]
  rw [Oper.upon_value]
  go_wp2
  go_end0
  exact ⟨rfl, rfl⟩

theorem pg_check (b : Nat) (bs : List Value) (w : World) (h : Lib.IsBuilder 47 5 b b bs w) :
    Calls Tryd.prog 30 #[.pointer (some ⟨b, 0, none⟩)] w fun e w' => e = .returned (.tuple #[]) ∧ Lib.BuilderAt 47 5 b b (.pointer (some ⟨b, 0, none⟩)) bs w' ∧ Below b w w' ∧ KeepT b w w' := by
  rcases h with h | h
  · refine (pg_fresh b w h.cell0 h.shape h.frozen0).mono ?_
    rintro e w' ⟨rfl, rfl⟩
    exact ⟨rfl, h.used _, (Below.refl b w).setCell (p := ⟨b, 0, none⟩) h.1 _, KeepT.setCell b 0 w _⟩
  · refine (check_used b w h.cell0).mono ?_
    rintro e w' ⟨rfl, rfl⟩
    exact ⟨rfl, h, Below.refl b _, KeepT.refl b _⟩

set_option maxHeartbeats 1000000 in
set_option maxRecDepth 100000 in
theorem pg_write (b : Nat) (bs : List Value) (s : ByteArray) (w : World) (h : Lib.IsBuilder 47 5 b b bs w) (hlen : bs.length + s.size ≤ 140737488355328) :
    Calls Tryd.prog 20 #[.pointer (some ⟨b, 0, none⟩), .string s] w fun e w' => e = .returned (.tuple #[.int .i64 s.size, .nilIface]) ∧ Lib.IsBuilder 47 5 b b (bs ++ Lib.strCells s) w' ∧ Below b w w' ∧ KeepT b w w' := by
  obtain ⟨i0, hi, hz0, hz1, hz2⟩ := info_parts Tryd.info5
  go_enter Tryd.func20, Tryd.ntmps20
  go_wp2_with fail
  refine (pg_check b bs _ h).mono ?_
  rintro e w1 ⟨rfl, h1, hb1, hk1⟩
  have hlt := h1.lt
  obtain ⟨hB, v, hbk, hown, hne⟩ := h1
  have c0 : w1.cell? ⟨b, 0, none⟩ = some (.pointer (some ⟨b, 0, none⟩)) := by rw [Lib.cell_of_heap hbk]; rfl
  have c1 : w1.cell? ⟨b, 1, none⟩ = some v := by rw [Lib.cell_of_heap hbk]; rfl
  go_wp2_with (at_builtin; refine Lib.wpList_append_own_string _ rfl _ _ 43 9 rfl b 5 i0 Tryd.underlying43 Tryd.underlying9 hi hz0 hz1 hz2 _ _ _ rfl hown s rfl ?c3 ?c4 ?c5 ?_)
  case c3 => unfold maxLen; omega
  case c4 => omega
  case c5 => omega
  intro v' w2 hown' hgrow _
  have hb2 : w2.heap[b]? = some (.cells #[.pointer (some ⟨b, 0, none⟩), v] 47 (0, 0)) := by
    rw [hgrow.block b hlt (fun e => hne e.symm)]
    exact hbk
  have d0 : w2.cell? ⟨b, 0, none⟩ = some (.pointer (some ⟨b, 0, none⟩)) := by rw [Lib.cell_of_heap hb2]; rfl
  have d1 : w2.cell? ⟨b, 1, none⟩ = some v := by rw [Lib.cell_of_heap hb2]; rfl
  have f1 : w2.frozen? ⟨b, 1, none⟩ = false := Lib.frozen_of_heap hb2 1
  obtain ⟨ao, n', cap, rfl⟩ : ∃ ao n' cap, v' = .slice ao n' cap := by
    rcases hown'.2 with ⟨hv, _⟩ | ⟨g, cap, cur, hv, _⟩
    · exact ⟨_, _, _, hv⟩
    · exact ⟨_, _, _, hv⟩
  go_wp2
  go_ret2
  refine ⟨rfl, .inr ?_, ?_, ?_⟩
  · exact Lib.BuilderAt.put (T := 47) (e := 5) hB hb2 (bs' := bs ++ Lib.strCells s) (by simpa [Lib.strCells_length] using hown') (by decide)
  · exact (hb1.grown hgrow (by omega) (fun k hk => (hown.lt k hk).1)).setCell (p := ⟨b, 1, none⟩) hB _
  · exact (hk1.trans (KeepT.grown hown hgrow)).trans (KeepT.setCell b 1 w2 _)

set_option maxHeartbeats 1000000 in
set_option maxRecDepth 100000 in
theorem pg_len (b : Nat) (bs : List Value) (w : World) (h : Lib.IsBuilder 47 5 b b bs w) : Calls Tryd.prog 22 #[.pointer (some ⟨b, 0, none⟩)] w fun e w' => e = .returned (.int .i64 bs.length) ∧ w' = w := by
  obtain ⟨p, hB, v, hbk, hown, hne⟩ : ∃ p, Lib.BuilderAt 47 5 b b p bs w := by
    rcases h with h | h
    · exact ⟨_, h⟩
    · exact ⟨_, h⟩
  have c1 : w.cell? ⟨b, 1, none⟩ = some v := by rw [Lib.cell_of_heap hbk]; rfl
  obtain ⟨ao, cap, rfl⟩ : ∃ ao cap, v = .slice ao bs.length cap := by
    rcases hown.2 with ⟨hv, hz⟩ | ⟨g, cap, cur, hv, _⟩
    · exact ⟨none, 0, by rw [hv, hz]⟩
    · exact ⟨_, _, hv⟩
  go_enter Tryd.func22, Tryd.ntmps22
  go_wp2
  go_ret
  exact ⟨rfl, rfl⟩

set_option maxHeartbeats 2000000 in
set_option maxRecDepth 100000 in
theorem pg_text (b : Nat) (l : List UInt8) (w : World) (h : Lib.IsBuilder 47 5 b b (Lib.byteCells l) w) (h0 : l ≠ []) : Calls Tryd.prog 23 #[.pointer (some ⟨b, 0, none⟩)] w fun e w' => e = .returned (.string ⟨l.toArray⟩) ∧ Below b w w' := by
  obtain ⟨p, hB, v, hbk, hown, hne⟩ : ∃ p, Lib.BuilderAt 47 5 b b p (Lib.byteCells l) w := by
    rcases h with h | h
    · exact ⟨_, h⟩
    · exact ⟨_, h⟩
  have hl0 : l.length ≠ 0 := by simpa using h0
  rw [Lib.byteCells_length] at hown
  obtain ⟨g, cap, cur, rfl, hbg, hg, hnc, hcm, hcs, htake⟩ : ∃ g cap cur, v = .slice (some ⟨g, 0, none⟩) l.length cap ∧ b ≤ g ∧ w.heap[g]? = some (.cells cur 5 (0, 0)) ∧ l.length ≤ cap ∧ cap ≤ maxLen ∧ cur.size = cap * 1 ∧ cur.toList.take (l.length * 1) = Lib.byteCells l := by
    rcases hown.2 with ⟨_, hz⟩ | ⟨g, cap, cur, hv, r⟩
    · exact absurd hz hl0
    · exact ⟨g, cap, cur, hv, r⟩
  have c1 : w.drew.cell? ⟨b, 1, none⟩ = some (.slice (some ⟨g, 0, none⟩) l.length cap) := by
    have : w.drew.heap[b]? = some (.cells #[p, .slice (some ⟨g, 0, none⟩) l.length cap] 47 (0, 0)) := hbk
    rw [Lib.cell_of_heap this]; rfl
  have hSD : (Builtin.unsafeSliceData_ #[43] 80 #[.slice (some ⟨g, 0, none⟩) l.length cap]).run Tryd.prog w.drew = .ok (.pointer (some ⟨g, 0, none⟩)) w.drew :=
    Lib.run_unsafeSliceData_row _ _ _ _ _ _ (by omega)
  have hUS : (Builtin.unsafeString_ #[80, 3] 9 #[.pointer (some ⟨g, 0, none⟩), .int .i64 l.length]).run Tryd.prog w.drew = .ok (.string ⟨l.toArray⟩) (w.drew.freeze ⟨g, 0, none⟩ l.length) := by
    refine Lib.run_unsafeString_row w.drew 80 3 9 5 Tryd.underlying80 (by kernel_rfl) g cur.size (by have hg' : w.drew.heap[g]? = some (.cells cur 5 (0, 0)) := hg; simp [World.shape?, hg']) l h0 (by omega) (by unfold maxLen at hcm; omega) ?_
    intro j x hx
    have := hown.cells (g := g) rfl j (.int .u8 x.toNat) (by simp [Lib.byteCells, hx])
    exact this
  have mixed : Tryd.prog.follows Departure.mixedOrders = true := by kernel_rfl
  go_enter Tryd.func23, Tryd.ntmps23
  go_wp2
  go_region_o
  all_goals (go_wp2; go_ret; exact ⟨rfl, Lib.below_freeze (Below.drew (Below.refl b w)) (p := ⟨g, 0, none⟩) hbg _⟩)

theorem dlen (s : ByteArray) : s.data.toList.length = s.size := by rw [Array.length_toList]; rfl
/-- Texts one behind the other. -/
def catS (ss : List ByteArray) : List UInt8 := ss.flatMap fun s => s.data.toList
theorem catS_succ {ss : List ByteArray} {k : Nat} {s : ByteArray} (h : ss[k]? = some s) : catS (ss.take (k + 1)) = catS (ss.take k) ++ s.data.toList := by
  rw [List.take_add_one, h]
  unfold catS
  rw [List.flatMap_append]
  simp
theorem catS_take_le (ss : List ByteArray) (k : Nat) : (catS (ss.take k)).length ≤ (catS ss).length := by
  have h : catS ss = catS (ss.take k) ++ catS (ss.drop k) := by
    unfold catS
    rw [← List.flatMap_append, List.take_append_drop]
  rw [h, List.length_append]
  omega
/-- The page holds a text; all but it is as it was. -/
structure Pg (b : Nat) (w wr : World) (bs : List UInt8) : Prop where
  i : Lib.IsBuilder 47 5 b b (Lib.byteCells bs) wr
  bl : Below b w wr
  k : KeepT b w wr
theorem Pg.start {b : Nat} {w : World} {bs : List UInt8} (h : Lib.IsBuilder 47 5 b b (Lib.byteCells bs) w) : Pg b w w bs := ⟨h, Below.refl _ _, KeepT.refl _ _⟩
theorem pg_lt {b : Nat} {w : World} {bs : List Value} (h : Lib.IsBuilder 47 5 b b bs w) : b < w.heap.size := by
  rcases h with h | h
  · exact h.lt
  · exact h.lt
theorem pg_below {w w' : World} {b : Nat} {bs : List Value} (h : Lib.IsBuilder 47 5 b b bs w) (hb : Below w.heap.size w w') : Lib.IsBuilder 47 5 b b bs w' := by
  have key : ∀ p, Lib.BuilderAt 47 5 b b p bs w → Lib.BuilderAt 47 5 b b p bs w' := fun p hp => by
    have hlt := hp.lt
    obtain ⟨hB, v, hbk, hown, hne⟩ := hp
    exact ⟨hB, v, (hb.block b hlt).trans hbk, T.own_below hown hb, hne⟩
  exact h.imp (key _) (key _)
theorem Pg.later {b : Nat} {w wr w2 : World} {bs : List UInt8} (h : Pg b w wr bs) (hb : Below wr.heap.size wr w2) : Pg b w w2 bs :=
  ⟨pg_below h.i hb, h.bl.trans (hb.mono (Nat.le_of_lt (pg_lt h.i))), h.k.trans (KeepT.below hb)⟩
theorem Pg.trans {b : Nat} {w w1 w2 : World} {bs bs' : List UInt8} (h : Pg b w w1 bs) (k : Pg b w1 w2 bs') : Pg b w w2 bs' := ⟨k.i, h.bl.trans k.bl, h.k.trans k.k⟩
/-- A row that is no row of bytes, and not the page, reads as it did. -/
structure Fx (W : World) (b g : Nat) (c : Array Value) (t : TypeId) : Prop where
  e : ∃ fr, W.heap[g]? = some (.cells c t fr)
  n : g ≠ b
  t : t ≠ 5
theorem Fx.keep {W W' : World} {b g : Nat} {c : Array Value} {t : TypeId} (h : Fx W b g c t) (k : KeepT b W W') : Fx W' b g c t := by
  obtain ⟨⟨fr, he⟩, hn, ht⟩ := h
  refine ⟨⟨fr, ?_⟩, hn, ht⟩
  rw [k.block g (Array.getElem?_eq_some_iff.1 he).1 hn (fun c' fr' q => by rw [he] at q; cases q; exact ht rfl)]
  exact he
theorem Fx.cell {W : World} {b g : Nat} {c : Array Value} {t : TypeId} (h : Fx W b g c t) (j : Nat) : W.cell? ⟨g, j, none⟩ = c[j]? := by
  obtain ⟨⟨fr, he⟩, _, _⟩ := h
  exact Lib.cell_of_heap he j
set_option maxHeartbeats 2000000 in
set_option maxRecDepth 100000 in
theorem add_any (b g : Nat) (bs : List UInt8) (ss : List ByteArray) (w : World) (h : Lib.IsBuilder 47 5 b b (Lib.byteCells bs) w) (hr : Fx w b g (ss.map Value.string).toArray 9) (hlen : bs.length + (catS ss).length ≤ 140737488355328) (hn : ss.length ≤ 2) :
    Calls Tryd.prog 11 #[.pointer (some ⟨b, 0, none⟩), .slice (some ⟨g, 0, none⟩) ss.length ss.length] w fun e w' => e = .returned (.tuple #[]) ∧ Pg b w w' (bs ++ catS ss) := by
  have HP : Hid (Pg b w w (bs ++ catS (ss.take 0))) := by
    show Pg b w w (bs ++ catS (ss.take 0))
    rw [List.take_zero]; show Pg b w w (bs ++ []); rw [List.append_nil]; exact Pg.start h
  have HR := (show Hid (Fx w b g (ss.map Value.string).toArray 9) from hr)
  have HL := (show Hid (bs.length + (catS ss).length ≤ 140737488355328) from hlen)
  have HG := (show Hid (∀ k, k < ss.length → ∃ s, ss[k]? = some s) from fun k hk => ⟨_, List.getElem?_eq_getElem hk⟩)
  have HT := (show Hid (ss.take ss.length = ss) from List.take_length)
  clear h hr hlen
  generalize hm : ss.length = m at *
  go_enter Tryd.func11, Tryd.ntmps11
  go_wp2_with fail
  go_loopw [8] (fun t wr => ∃ k : Nat, k ≤ m ∧ t = .int .i64 k ∧ Hid (Pg b w wr (bs ++ catS (ss.take k)))) (fun t _ => m - (intOf t).toNat)
  case atStart => exact ⟨0, by omega, by go_num, HP⟩
  case round =>
    obtain ⟨k, hk, rfl, HW⟩ := hrel
    clear HP
    by_cases hlt : k < m
    · obtain ⟨s, hs⟩ := HG.out k hlt
      have c0 : wr.cell? ⟨g, k, none⟩ = some (.string s) := by
        rw [(HR.out.keep HW.out.k).cell k]
        simp [hs]
      have HE := (show Hid (catS (ss.take (k + 1)) = catS (ss.take k) ++ s.data.toList) from catS_succ hs)
      have hle := catS_take_le ss (k + 1)
      have hL := HL.out
      have HC : Hid (∀ _ : Unit, Calls Tryd.prog 20 #[.pointer (some ⟨b, 0, none⟩), .string s] wr fun e w' => e = .returned (.tuple #[.int .i64 s.size, .nilIface]) ∧ Lib.IsBuilder 47 5 b b (Lib.byteCells (bs ++ catS (ss.take k)) ++ Lib.strCells s) w' ∧ Below b wr w' ∧ KeepT b wr w') := fun _ => pg_write b _ s wr HW.out.i (by
        rw [HE.out, List.length_append] at hle
        rw [Lib.byteCells_length, List.length_append]
        have := dlen s
        omega)
      have z0 : (0 : Int) ≤ (k : Int) := by omega
      have z1 : (k : Int) < (m : Int) := by omega
      clear hle hL hs HG HL
      go_wp2_with fail
      refine (HC.out ()).mono ?_
      rintro e w1 ⟨rfl, i1, b1, k1⟩
      have HW2 : Hid (Pg b w w1 (bs ++ catS (ss.take (k + 1)))) := by
        show Pg b w w1 _
        rw [HE.out, ← List.append_assoc]
        refine ⟨?_, HW.out.bl.trans b1, HW.out.k.trans k1⟩
        rw [bcells, ← scells]
        exact i1
      clear HC HE HW i1 b1 k1 c0
      go_wp2_with fail
      go_roundw
      case rel => exact ⟨k + 1, by omega, by go_num, HW2⟩
      case measure => simp [intOf]; omega
    · have z1 : ¬ (k : Int) < (m : Int) := by omega
      have hkm : k = m := by omega
      subst hkm
      clear HG
      go_wp2_with fail
      go_end0
      have := HW.out
      rw [HT.out] at this
      exact ⟨rfl, this⟩
end Go.Proofs.YtnpifgcgjgddoaaDoor.N

namespace Go.Proofs.YtnpifgcgjgddoaaDoor.N
open Go.RowKit
abbrev Nd := T.Nd
def nd0 (op : Int) : Nd := ⟨op, 0, ⟨#[]⟩, 0, 0, 0, 0⟩
def bgK (k : Int) : Bool := k == 8 || k == 9 || k == 2 || k == 3 || k == 28 || k == 5 || k == 18 || k == 29 || k == 30 || k == 16 || k == 19 || k == 21 || k == 23 || k == 25
end Go.Proofs.YtnpifgcgjgddoaaDoor.N

namespace Go.Proofs.YtnpifgcgjgddoaaDoor
open Go.RowKit
def lkT (t : Tk) : Tk := { t with fr := 0, en := 0 }
end Go.Proofs.YtnpifgcgjgddoaaDoor

namespace Go.Proofs.YtnpifgcgjgddoaaDoor.N
open Go.RowKit
/-- How strongly a node's text holds together. -/
def hld (op : Int) : Nat := if op = 8 then 0 else if op = 7 then 1 else if op = 12 ∨ op = 13 then 2 else if op = 9 ∨ op = 10 ∨ op = 11 ∨ op = 14 ∨ op = 15 ∨ op = 16 ∨ op = 22 ∨ op = 23 then 3 else 4
/-- A token, or a blank. -/
abbrev It := Option Tk
def sgI (k : Int) : It := some ⟨k, 0, 0, 0, ⟨#[]⟩, 0, 0, 0, 0⟩
def nuI (k n : Int) : It := some ⟨k, n, 0, 0, ⟨#[]⟩, 0, 0, 0, 0⟩
def txI (k : Int) (s : ByteArray) : It := some ⟨k, 0, 0, 0, s, 0, 0, 0, 0⟩
abbrev Ent := Nat × List It
def partI (k : Nat) (e : Ent) : List It := if e.1 < k then [sgI 16] ++ (e.2 ++ [sgI 17]) else e.2
/-- The items of a node's text, its parts' given. -/
def nodeI (n : Nd) (a b : Ent) : List It :=
  if n.op = 1 then [sgI 29] else if n.op = 2 then [sgI 30] else if n.op = 3 then [sgI 18] else if n.op = 4 then [txI 2 n.tx]
  else if n.op = 5 then [some ⟨3, 0, 0, 0, ⟨#[]⟩, n.s0, n.s1, n.s2, n.s3⟩] else if n.op = 6 then [txI 1 n.tx]
  else if n.op = 7 then partI 1 a ++ ([none] ++ partI 2 b) else if n.op = 8 then partI 0 a ++ ([none, sgI 7, none] ++ partI 1 b)
  else if n.op = 9 then partI 3 a ++ [sgI 11] else if n.op = 10 then partI 3 a ++ [sgI 12] else if n.op = 11 then partI 3 a ++ [sgI 10]
  else if n.op = 12 then [sgI 8] ++ partI 2 a else if n.op = 13 then [sgI 9] ++ partI 2 a
  else if n.op = 14 then partI 3 a ++ [nuI 13 n.nn] else if n.op = 15 then partI 3 a ++ [nuI 14 n.nn] else if n.op = 16 then partI 3 a ++ [nuI 15 n.nn]
  else if n.op = 17 then [sgI 19, sgI 20] else if n.op = 18 then [sgI 19] ++ (partI 0 a ++ [sgI 20])
  else if n.op = 19 then [txI 21 n.tx, none] ++ (partI 0 a ++ [none, sgI 22]) else if n.op = 20 then [sgI 23, none] ++ (partI 0 a ++ [none, sgI 24])
  else if n.op = 21 then [sgI 25, none] ++ (partI 0 a ++ [none, sgI 26])
  else if n.op = 22 then partI 3 a ++ [none, sgI 27, none, txI 2 n.tx] else partI 3 a ++ [none, sgI 27, none, nuI 4 n.nn]
def tksI (l : List It) : List Tk := l.filterMap id
end Go.Proofs.YtnpifgcgjgddoaaDoor.N

namespace Go.Proofs.YtnpifgcgjgddoaaDoor.N
open Go.RowKit
theorem nodeI1 {n : Nd} (h : n.op = 1) (a b : Ent) : nodeI n a b = [sgI 29] := by
  unfold nodeI
  rw [if_pos h]
theorem nodeI2 {n : Nd} (h : n.op = 2) (a b : Ent) : nodeI n a b = [sgI 30] := by
  unfold nodeI
  rw [if_neg (by omega), if_pos h]
theorem nodeI3 {n : Nd} (h : n.op = 3) (a b : Ent) : nodeI n a b = [sgI 18] := by
  unfold nodeI
  rw [if_neg (by omega), if_neg (by omega), if_pos h]
theorem nodeI4 {n : Nd} (h : n.op = 4) (a b : Ent) : nodeI n a b = [txI 2 n.tx] := by
  unfold nodeI
  rw [if_neg (by omega), if_neg (by omega), if_neg (by omega), if_pos h]
theorem nodeI5 {n : Nd} (h : n.op = 5) (a b : Ent) : nodeI n a b = [some ⟨3, 0, 0, 0, ⟨#[]⟩, n.s0, n.s1, n.s2, n.s3⟩] := by
  unfold nodeI
  rw [if_neg (by omega), if_neg (by omega), if_neg (by omega), if_neg (by omega), if_pos h]
theorem nodeI6 {n : Nd} (h : n.op = 6) (a b : Ent) : nodeI n a b = [txI 1 n.tx] := by
  unfold nodeI
  rw [if_neg (by omega), if_neg (by omega), if_neg (by omega), if_neg (by omega), if_neg (by omega), if_pos h]
theorem nodeI7 {n : Nd} (h : n.op = 7) (a b : Ent) : nodeI n a b = partI 1 a ++ ([none] ++ partI 2 b) := by
  unfold nodeI
  rw [if_neg (by omega), if_neg (by omega), if_neg (by omega), if_neg (by omega), if_neg (by omega), if_neg (by omega), if_pos h]
theorem nodeI8 {n : Nd} (h : n.op = 8) (a b : Ent) : nodeI n a b = partI 0 a ++ ([none, sgI 7, none] ++ partI 1 b) := by
  unfold nodeI
  rw [if_neg (by omega), if_neg (by omega), if_neg (by omega), if_neg (by omega), if_neg (by omega), if_neg (by omega), if_neg (by omega), if_pos h]
theorem nodeI9 {n : Nd} (h : n.op = 9) (a b : Ent) : nodeI n a b = partI 3 a ++ [sgI 11] := by
  unfold nodeI
  rw [if_neg (by omega), if_neg (by omega), if_neg (by omega), if_neg (by omega), if_neg (by omega), if_neg (by omega), if_neg (by omega), if_neg (by omega), if_pos h]
theorem nodeI10 {n : Nd} (h : n.op = 10) (a b : Ent) : nodeI n a b = partI 3 a ++ [sgI 12] := by
  unfold nodeI
  rw [if_neg (by omega), if_neg (by omega), if_neg (by omega), if_neg (by omega), if_neg (by omega), if_neg (by omega), if_neg (by omega), if_neg (by omega), if_neg (by omega), if_pos h]
theorem nodeI11 {n : Nd} (h : n.op = 11) (a b : Ent) : nodeI n a b = partI 3 a ++ [sgI 10] := by
  unfold nodeI
  rw [if_neg (by omega), if_neg (by omega), if_neg (by omega), if_neg (by omega), if_neg (by omega), if_neg (by omega), if_neg (by omega), if_neg (by omega), if_neg (by omega), if_neg (by omega), if_pos h]
theorem nodeI12 {n : Nd} (h : n.op = 12) (a b : Ent) : nodeI n a b = [sgI 8] ++ partI 2 a := by
  unfold nodeI
  rw [if_neg (by omega), if_neg (by omega), if_neg (by omega), if_neg (by omega), if_neg (by omega), if_neg (by omega), if_neg (by omega), if_neg (by omega), if_neg (by omega), if_neg (by omega), if_neg (by omega), if_pos h]
theorem nodeI13 {n : Nd} (h : n.op = 13) (a b : Ent) : nodeI n a b = [sgI 9] ++ partI 2 a := by
  unfold nodeI
  rw [if_neg (by omega), if_neg (by omega), if_neg (by omega), if_neg (by omega), if_neg (by omega), if_neg (by omega), if_neg (by omega), if_neg (by omega), if_neg (by omega), if_neg (by omega), if_neg (by omega), if_neg (by omega), if_pos h]
theorem nodeI14 {n : Nd} (h : n.op = 14) (a b : Ent) : nodeI n a b = partI 3 a ++ [nuI 13 n.nn] := by
  unfold nodeI
  rw [if_neg (by omega), if_neg (by omega), if_neg (by omega), if_neg (by omega), if_neg (by omega), if_neg (by omega), if_neg (by omega), if_neg (by omega), if_neg (by omega), if_neg (by omega), if_neg (by omega), if_neg (by omega), if_neg (by omega), if_pos h]
theorem nodeI15 {n : Nd} (h : n.op = 15) (a b : Ent) : nodeI n a b = partI 3 a ++ [nuI 14 n.nn] := by
  unfold nodeI
  rw [if_neg (by omega), if_neg (by omega), if_neg (by omega), if_neg (by omega), if_neg (by omega), if_neg (by omega), if_neg (by omega), if_neg (by omega), if_neg (by omega), if_neg (by omega), if_neg (by omega), if_neg (by omega), if_neg (by omega), if_neg (by omega), if_pos h]
theorem nodeI16 {n : Nd} (h : n.op = 16) (a b : Ent) : nodeI n a b = partI 3 a ++ [nuI 15 n.nn] := by
  unfold nodeI
  rw [if_neg (by omega), if_neg (by omega), if_neg (by omega), if_neg (by omega), if_neg (by omega), if_neg (by omega), if_neg (by omega), if_neg (by omega), if_neg (by omega), if_neg (by omega), if_neg (by omega), if_neg (by omega), if_neg (by omega), if_neg (by omega), if_neg (by omega), if_pos h]
theorem nodeI17 {n : Nd} (h : n.op = 17) (a b : Ent) : nodeI n a b = [sgI 19, sgI 20] := by
  unfold nodeI
  rw [if_neg (by omega), if_neg (by omega), if_neg (by omega), if_neg (by omega), if_neg (by omega), if_neg (by omega), if_neg (by omega), if_neg (by omega), if_neg (by omega), if_neg (by omega), if_neg (by omega), if_neg (by omega), if_neg (by omega), if_neg (by omega), if_neg (by omega), if_neg (by omega), if_pos h]
theorem nodeI18 {n : Nd} (h : n.op = 18) (a b : Ent) : nodeI n a b = [sgI 19] ++ (partI 0 a ++ [sgI 20]) := by
  unfold nodeI
  rw [if_neg (by omega), if_neg (by omega), if_neg (by omega), if_neg (by omega), if_neg (by omega), if_neg (by omega), if_neg (by omega), if_neg (by omega), if_neg (by omega), if_neg (by omega), if_neg (by omega), if_neg (by omega), if_neg (by omega), if_neg (by omega), if_neg (by omega), if_neg (by omega), if_neg (by omega), if_pos h]
theorem nodeI19 {n : Nd} (h : n.op = 19) (a b : Ent) : nodeI n a b = [txI 21 n.tx, none] ++ (partI 0 a ++ [none, sgI 22]) := by
  unfold nodeI
  rw [if_neg (by omega), if_neg (by omega), if_neg (by omega), if_neg (by omega), if_neg (by omega), if_neg (by omega), if_neg (by omega), if_neg (by omega), if_neg (by omega), if_neg (by omega), if_neg (by omega), if_neg (by omega), if_neg (by omega), if_neg (by omega), if_neg (by omega), if_neg (by omega), if_neg (by omega), if_neg (by omega), if_pos h]
theorem nodeI20 {n : Nd} (h : n.op = 20) (a b : Ent) : nodeI n a b = [sgI 23, none] ++ (partI 0 a ++ [none, sgI 24]) := by
  unfold nodeI
  rw [if_neg (by omega), if_neg (by omega), if_neg (by omega), if_neg (by omega), if_neg (by omega), if_neg (by omega), if_neg (by omega), if_neg (by omega), if_neg (by omega), if_neg (by omega), if_neg (by omega), if_neg (by omega), if_neg (by omega), if_neg (by omega), if_neg (by omega), if_neg (by omega), if_neg (by omega), if_neg (by omega), if_neg (by omega), if_pos h]
theorem nodeI21 {n : Nd} (h : n.op = 21) (a b : Ent) : nodeI n a b = [sgI 25, none] ++ (partI 0 a ++ [none, sgI 26]) := by
  unfold nodeI
  rw [if_neg (by omega), if_neg (by omega), if_neg (by omega), if_neg (by omega), if_neg (by omega), if_neg (by omega), if_neg (by omega), if_neg (by omega), if_neg (by omega), if_neg (by omega), if_neg (by omega), if_neg (by omega), if_neg (by omega), if_neg (by omega), if_neg (by omega), if_neg (by omega), if_neg (by omega), if_neg (by omega), if_neg (by omega), if_neg (by omega), if_pos h]
theorem nodeI22 {n : Nd} (h : n.op = 22) (a b : Ent) : nodeI n a b = partI 3 a ++ [none, sgI 27, none, txI 2 n.tx] := by
  unfold nodeI
  rw [if_neg (by omega), if_neg (by omega), if_neg (by omega), if_neg (by omega), if_neg (by omega), if_neg (by omega), if_neg (by omega), if_neg (by omega), if_neg (by omega), if_neg (by omega), if_neg (by omega), if_neg (by omega), if_neg (by omega), if_neg (by omega), if_neg (by omega), if_neg (by omega), if_neg (by omega), if_neg (by omega), if_neg (by omega), if_neg (by omega), if_neg (by omega), if_pos h]
theorem nodeI23 {n : Nd} (h : n.op = 23) (a b : Ent) : nodeI n a b = partI 3 a ++ [none, sgI 27, none, nuI 4 n.nn] := by
  unfold nodeI
  rw [if_neg (by omega), if_neg (by omega), if_neg (by omega), if_neg (by omega), if_neg (by omega), if_neg (by omega), if_neg (by omega), if_neg (by omega), if_neg (by omega), if_neg (by omega), if_neg (by omega), if_neg (by omega), if_neg (by omega), if_neg (by omega), if_neg (by omega), if_neg (by omega), if_neg (by omega), if_neg (by omega), if_neg (by omega), if_neg (by omega), if_neg (by omega), if_neg (by omega)]
theorem al_fd {n : Nd} (h : T.alE n = 0) : 0 ≤ T.ar n.op ∧ T.txF n.op n.tx = true ∧ T.nuF n.op n.nn = true ∧ T.seF n.op n.s0 n.s1 n.s2 n.s3 = true := by
  unfold T.alE at h
  by_cases h1 : T.ar n.op < 0
  · rw [if_pos h1] at h; cases h
  · rw [if_neg h1] at h
    by_cases h2 : T.fdF n = true
    · unfold T.fdF at h2
      simp only [Bool.and_eq_true] at h2
      exact ⟨by omega, h2.1.1, h2.1.2, h2.2⟩
    · rw [if_neg h2] at h; cases h
theorem op_rng {n : Nd} (h : T.alE n = 0) : 1 ≤ n.op ∧ n.op ≤ 23 := by
  have := (al_fd h).1
  unfold T.ar at this
  split at this
  · omega
  · omega
theorem al_se {n : Nd} (h : T.alE n = 0) (ho : n.op ≠ 5) : n.s0 = 0 ∧ n.s1 = 0 ∧ n.s2 = 0 ∧ n.s3 = 0 := by
  have := (al_fd h).2.2.2
  unfold T.seF at this
  rw [if_neg ho] at this
  exact of_decide_eq_true this
theorem al_nu {n : Nd} (h : T.alE n = 0) (ho : ¬ (n.op = 14 ∨ n.op = 15 ∨ n.op = 16 ∨ n.op = 23)) : n.nn = 0 := by
  have := (al_fd h).2.2.1
  unfold T.nuF at this
  rw [if_neg ho] at this
  exact of_decide_eq_true this
theorem al_txn {n : Nd} (h : T.alE n = 0) (h4 : n.op ≠ 4) (h6 : n.op ≠ 6) (h19 : n.op ≠ 19) (h22 : n.op ≠ 22) : n.tx = ⟨#[]⟩ := by
  have := (al_fd h).2.1
  unfold T.txF at this
  rw [if_neg h4, if_neg h6, if_neg h19, if_neg h22] at this
  have := of_decide_eq_true this
  exact emp_of (by omega)
theorem nd_z {n : Nd} (h : T.alE n = 0) (ho : n.op ≠ 4 ∧ n.op ≠ 5 ∧ n.op ≠ 6 ∧ n.op ≠ 14 ∧ n.op ≠ 15 ∧ n.op ≠ 16 ∧ n.op ≠ 19 ∧ n.op ≠ 22 ∧ n.op ≠ 23) : n = nd0 n.op := by
  obtain ⟨a, b, c, d⟩ := al_se h (by omega)
  have e := al_nu h (by omega)
  have f := al_txn h (by omega) (by omega) (by omega) (by omega)
  obtain ⟨op, nn, tx, s0, s1, s2, s3⟩ := n
  dsimp only at a b c d e f ⊢
  subst a b c d e f
  rfl
theorem nd_t {n : Nd} (h : T.alE n = 0) (ho : n.op = 4 ∨ n.op = 6 ∨ n.op = 19 ∨ n.op = 22) : n = ⟨n.op, 0, n.tx, 0, 0, 0, 0⟩ := by
  obtain ⟨a, b, c, d⟩ := al_se h (by omega)
  have e := al_nu h (by omega)
  obtain ⟨op, nn, tx, s0, s1, s2, s3⟩ := n
  dsimp only at a b c d e ⊢
  subst a b c d e
  rfl
theorem nd_s {n : Nd} (h : T.alE n = 0) (ho : n.op = 5) : n = ⟨n.op, 0, ⟨#[]⟩, n.s0, n.s1, n.s2, n.s3⟩ := by
  have e := al_nu h (by omega)
  have f := al_txn h (by omega) (by omega) (by omega) (by omega)
  obtain ⟨op, nn, tx, s0, s1, s2, s3⟩ := n
  dsimp only at e f ⊢
  subst e f
  rfl
theorem nd_n {n : Nd} (h : T.alE n = 0) (ho : n.op = 14 ∨ n.op = 15 ∨ n.op = 16 ∨ n.op = 23) : n = ⟨n.op, n.nn, ⟨#[]⟩, 0, 0, 0, 0⟩ ∧ 0 ≤ n.nn ∧ n.nn ≤ 50 := by
  obtain ⟨a, b, c, d⟩ := al_se h (by omega)
  have f := al_txn h (by omega) (by omega) (by omega) (by omega)
  have g := (al_fd h).2.2.1
  unfold T.nuF at g
  rw [if_pos ho] at g
  have g := of_decide_eq_true g
  refine ⟨?_, g⟩
  clear g
  obtain ⟨op, nn, tx, s0, s1, s2, s3⟩ := n
  dsimp only at a b c d f ⊢
  subst a b c d f
  rfl
end Go.Proofs.YtnpifgcgjgddoaaDoor.N

namespace Go.Proofs.YtnpifgcgjgddoaaDoor.T
open Go.RowKit
def decNd (a b:Nd):Decidable (a = b):=if h:a.op = b.op ∧ a.nn = b.nn ∧ a.tx.data = b.tx.data ∧ a.s0 = b.s0 ∧ a.s1 = b.s1 ∧ a.s2 = b.s2 ∧ a.s3 = b.s3 then isTrue (by
  obtain ⟨h1,h2,h3,h4,h5,h6,h7⟩ := h
  obtain ⟨a1,a2,⟨a3⟩,a4,a5,a6,a7⟩ := a
  obtain ⟨b1,b2,⟨b3⟩,b4,b5,b6,b7⟩ := b
  dsimp only at h1 h2 h3 h4 h5 h6 h7
  subst h1 h2 h3 h4 h5 h6 h7
  rfl) else isFalse (fun e => h (by rw [e];exact ⟨rfl,rfl,rfl,rfl,rfl,rfl,rfl⟩))
def decPt (L M:List Nd):Decidable (L = M):=@instDecidableEqList Nd decNd L M
def patB (L M:List Nd):Bool:=@decide (L = M) (decPt L M)
theorem patB_t {L M : List Nd} (hl : L.length = M.length) (h : ∀ j : Nat, j < L.length → L[j]? = M[j]?) : patB L M = true := by
  unfold patB
  refine @decide_eq_true _ (decPt _ _) (List.ext_getElem? fun j => ?_)
  by_cases q : j < L.length
  · exact h j q
  · rw [List.getElem?_eq_none (by omega), List.getElem?_eq_none (by omega)]
theorem patB_f {L M : List Nd} (j : Nat) (h : L[j]? ≠ M[j]?) : patB L M = false := by
  unfold patB
  exact @decide_eq_false _ (decPt _ _) (fun e => h (by rw [e]))
theorem patB_ne {L M : List Nd} (h : ¬ L.length = M.length) : patB L M = false := by
  unfold patB
  exact @decide_eq_false _ (decPt _ _) (fun e => h (by rw [e]))
theorem patB_refl (L : List Nd) : patB L L = true := by
  unfold patB
  exact @decide_eq_true _ (decPt _ _) rfl

set_option maxRecDepth 100000 in
set_option maxHeartbeats 8000000 in
theorem equal_any (A1 A2 : Option Addr) (c1 c2 : Nat) (L M : List Nd) (hl : L.length ≤ 140737488355328) (hm : M.length ≤ 140737488355328) (w : World) (h1 : RdN w A1 L) (h2 : RdN w A2 M) :
    Calls Tryd.prog 14 #[.slice A1 L.length c1, .slice A2 M.length c2] w fun e w' => e = .returned (.bool (patB L M)) ∧ Below w.heap.size w w' := by
  by_cases hne : L.length = M.length
  · have t0 : ((L.length : Int) != (M.length : Int)) = false := by rw [bne, beq_iff_eq.2 (by omega)]; rfl
    have HT := (show Hid ((∀ j : Nat, j < L.length → L[j]? = M[j]?) → patB L M = true) from fun h => patB_t hne h)
    have HF := (show Hid (∀ j : Nat, L[j]? ≠ M[j]? → patB L M = false) from fun j h => patB_f j h)
    have H1 := (show Hid _ from h1)
    have H2 := (show Hid _ from h2)
    have HG := (show Hid (∀ k, k < L.length → ∃ m n, L[k]? = some m ∧ M[k]? = some n ∧ L ≠ [] ∧ M ≠ []) from fun k hk => ⟨_, _, List.getElem?_eq_getElem hk, List.getElem?_eq_getElem (by omega), by rintro rfl; simp at hk, by rintro rfl; rw [hne] at hk; simp at hk⟩)
    have hle : (L.length : Int) = (M.length : Int) := by omega
    clear h1 h2 hne
    go_enter Tryd.func14, Tryd.ntmps14
    go_wp2_with fail
    go_loopw [13] (fun t wr => ∃ k : Nat, k ≤ L.length ∧ t = .int .i64 k ∧ Hid (∀ j : Nat, j < k → L[j]? = M[j]?) ∧ Hid (Below w.heap.size w wr)) (fun t _ => L.length - (intOf t).toNat)
    case atStart => exact ⟨0, by omega, by go_num, fun j q => by omega, Below.refl _ _⟩
    case round =>
      obtain ⟨k, hk, rfl, HI, HW⟩ := hrel
      by_cases hlt : k < L.length
      · obtain ⟨m, n, hm1, hn1, nl, nm⟩ := HG.out k hlt
        obtain ⟨g1, o1, rfl, l1, q1⟩ := H1.out nl
        obtain ⟨g2, o2, rfl, l2, q2⟩ := H2.out nm
        obtain ⟨a0, a1, a2, a3, a4, a5, a6⟩ := (q1.same (HW.out.block g1 l1)) k m hm1
        obtain ⟨d0, d1, d2, d3, d4, d5, d6⟩ := (q2.same (HW.out.block g2 l2)) k n hn1
        have z0 : (0 : Int) ≤ (k : Int) := by omega
        have z1 : (k : Int) < (L.length : Int) := by omega
        have z2 : (k : Int) < (M.length : Int) := by omega
        have HN := (show Hid (L[k]? = some m ∧ M[k]? = some n) from ⟨hm1, hn1⟩)
        clear HG H1 H2 q1 q2 nl nm hm1 hn1 hle
        have hneq := node_neq m n
        cases he : ndE m n with
        | true =>
          rw [he] at hneq
          have HI2 := (show Hid (∀ j : Nat, j < k + 1 → L[j]? = M[j]?) from fun j hj => by
            by_cases q : j < k
            · exact HI.out j q
            · obtain rfl : j = k := by omega
              rw [HN.out.1, HN.out.2, ndE_eq he])
          clear HT HF HI he HN
          go_wp2_with fail
          go_quiet (fail)
          have HW2 := (show Hid (Below w.heap.size w (wr.drewN nq)) from HW.out.trans (below_drewN (Below.refl _ _) _))
          generalize wr.drewN nq = w2 at *
          clear hneq a0 a1 a2 a3 a4 a5 a6 d0 d1 d2 d3 d4 d5 d6 HW
          go_wp2_with fail
          go_roundw
          case rel => exact ⟨k + 1, by omega, by go_num, HI2, HW2⟩
          case measure => simp [intOf]; omega
        | false =>
          rw [he] at hneq
          have HE := (show Hid (patB L M = false) from HF.out k (by
            rw [HN.out.1, HN.out.2]
            intro e
            have e2 : m = n := Option.some.inj e
            rw [ndE_iff.2 e2] at he
            cases he))
          clear HT HF HI he HN
          go_wp2_with fail
          go_quiet (fail)
          have HW2 := (show Hid (Below w.heap.size w (wr.drewN nq)) from HW.out.trans (below_drewN (Below.refl _ _) _))
          generalize wr.drewN nq = w2 at *
          clear hneq a0 a1 a2 a3 a4 a5 a6 d0 d1 d2 d3 d4 d5 d6 HW
          go_wp2_with fail
          go_ret
          exact ⟨by rw [HE.out]; rfl, HW2.out⟩
      · obtain rfl : k = L.length := by omega
        have HE := (show Hid (patB L M = true) from HT.out HI.out)
        clear HG H1 H2 HT HF HI
        go_wp2_with fail
        go_ret
        exact ⟨by rw [HE.out]; rfl, HW.out⟩
  · have t0 : ((L.length : Int) != (M.length : Int)) = true := by rw [bne, beq_eq_false_iff_ne.2 (by omega)]; rfl
    have HE := (show Hid (patB L M = false) from patB_ne hne)
    clear h1 h2 hne
    go_enter Tryd.func14, Tryd.ntmps14
    go_wp2_with fail
    go_ret
    exact ⟨by rw [HE.out]; rfl, Below.refl _ _⟩

set_option maxRecDepth 100000 in
set_option maxHeartbeats 1000000 in
theorem same_any (A1 A2 : Option Addr) (c1 c2 : Nat) (L M : List Nd) (hl : L.length ≤ 140737488355328) (hm : M.length ≤ 140737488355328) (w : World) (h1 : RdN w A1 L) (h2 : RdN w A2 M) :
    Calls Tryd.prog 6 #[.slice A1 L.length c1, .slice A2 M.length c2] w fun e w' => e = .returned (.bool (patB L M)) ∧ Below w.heap.size w w' := by
  have H : Hid (∀ _ : Unit, Calls Tryd.prog 14 #[.slice A1 L.length c1, .slice A2 M.length c2] w fun e w' => e = .returned (.bool (patB L M)) ∧ Below w.heap.size w w') := fun _ => equal_any A1 A2 c1 c2 L M hl hm w h1 h2
  clear h1 h2 hl hm
  go_enter Tryd.func6, Tryd.ntmps6
  go_wp2_with fail
  refine (H.out ()).mono ?_
  rintro e w2 ⟨rfl, b2⟩
  clear H
  have HB := (show Hid _ from b2)
  clear b2
  go_wp2_with fail
  go_ret
  exact ⟨rfl, HB.out⟩

theorem enters37 (args : Array Value) (w : World) : (callFunc 18 args).run Tryd.prog w = .ok (.enter 18 args) w := enters_of Tryd.func18 (by kernel_rfl) rfl args w
set_option maxRecDepth 100000 in
set_option maxHeartbeats 1000000 in
theorem check1_any (p : Pt) (v : Value) (w : World) : Calls Tryd.prog 18 #[ptG p, v] w fun e w' => (∃ u, e = .returned u) ∧ Below w.heap.size w w' := by
  have HB := (show Hid (Below w.heap.size w (w.alloc (.cells #[.int .i64 p.1, .int .i64 p.2.1, .int .i64 p.2.2] 55))) from below_box _ _)
  go_enter Tryd.func18, Tryd.ntmps18
  go_wp2_with fail
  go_end0
  exact ⟨⟨_, rfl⟩, HB.out⟩
theorem see37 (L : List Nd) (Bc B : Nat) : See L 18 #[] Bc B (fun _ X _ => ∀ b, ¬ X b) :=
  ⟨fun _ _ _ _ h _ _ => h, fun _ _ _ h b q => absurd q (h b), fun k X w A c h _ _ _ _ _ => (check1_any (pt L k) (.slice A (arN (opAt L k)) c) w).mono fun _e _w' ⟨he, hb⟩ => ⟨he, X, h, ⟨hb.os, hb.tape, hb.output, hb.size, fun b hlt _ => hb.block b hlt⟩, fun _b q => .inl q⟩⟩

set_option maxRecDepth 100000 in
set_option maxHeartbeats 1000000 in
theorem check_any (L : List Nd) (Ap : Option Addr) (cp : Nat) (hL : L.length ≤ 140737488355328) (hT : ∀ n ∈ L, n.tx.size ≤ 140737488355328) (w : World) (hp : RdN w Ap L) :
    Calls Tryd.prog 9 #[.slice Ap L.length cp] w fun e w' => e = .returned (.tuple #[.int .i64 (ck L).1, .int .i64 (ck L).2]) ∧ Below w.heap.size w w' := by
  have H : Hid (∀ _ : Unit, Calls Tryd.prog 17 #[.slice Ap L.length cp, .func (.func 18) #[] #[]] w fun e w' => e = .returned (.tuple #[.int .i64 (ck L).1, .int .i64 (ck L).2]) ∧ Below w.heap.size w w' ∧ ∃ (k : Nat) (X : Nat → Prop), (∀ b, ¬ X b) ∧ ((ck L).2 = 0 → k = L.length)) := (fun _ => through_any L 18 #[] (fun _ X _ => ∀ b, ¬ X b) Ap cp w.heap.size hL hT w (Nat.le_refl _) hp (fun hne a ha => by
    obtain ⟨g, o, e, lt, _⟩ := hp hne
    rw [e] at ha
    cases ha
    exact lt) enters37 (see37 L _ _) (fun _ => False) (fun _ q => q))
  clear hp hT hL
  go_enter Tryd.func9, Tryd.ntmps9
  go_wp2_with fail
  refine (H.out ()).mono ?_
  rintro e w2 ⟨rfl, b2, _⟩
  clear H
  have HB := (show Hid _ from b2)
  clear b2
  go_wp2_with fail
  go_ret2
  exact ⟨rfl, HB.out⟩
end Go.Proofs.YtnpifgcgjgddoaaDoor.T

namespace Go.Proofs.YtnpifgcgjgddoaaDoor.T
open Go.RowKit
theorem ndc_get (L : List Nd) (j : Nat) (n : Nd) (h : L[j]? = some n) : ∀ i, i < 7 → (ndc L)[j * 7 + i]? = (ndV n)[i]? := by
  induction L generalizing j with
  | nil => cases h
  | cons a L ih =>
    intro i hi
    have e : ndc (a :: L) = ndV a ++ ndc L := rfl
    rw [e]
    cases j with
    | zero =>
      cases h
      rw [Nat.zero_mul, Nat.zero_add, List.getElem?_append_left (by show i < 7; exact hi)]
    | succ j =>
      have h2 : L[j]? = some n := by simpa using h
      have e7 : (ndV a).length = 7 := rfl
      rw [List.getElem?_append_right (by rw [e7]; omega), e7, show (j + 1) * 7 + i - 7 = j * 7 + i from by omega]
      exact ih j h2 i hi
theorem own_ndl {W : World} {B g n cap : Nat} {L : List Nd} {xs : List Value} (h : W.ownsRow B 33 7 (.slice (some ⟨g, 0, none⟩) n cap) n (ndc L ++ xs)) : NdL W g 0 L := fun j nd hj => by
  have hc := h.cells (g := g) rfl
  have hjl : j < L.length := by
    by_cases q : j < L.length
    · exact q
    · rw [List.getElem?_eq_none (by omega)] at hj; cases hj
  have key : ∀ i u, i < 7 → (ndV nd)[i]? = some u → W.cell? ⟨g, 0 + j * 7 + i, none⟩ = some u := fun i u hi hu => by
    have := hc (j * 7 + i) u (by rw [List.getElem?_append_left (by rw [ndc_len]; omega), ndc_get L j nd hj i hi]; exact hu)
    rw [Addr.add_lit] at this
    rw [Nat.add_assoc]
    exact this
  exact ⟨key 0 _ (by omega) rfl, key 1 _ (by omega) rfl, key 2 _ (by omega) rfl, key 3 _ (by omega) rfl, key 4 _ (by omega) rfl, key 5 _ (by omega) rfl, key 6 _ (by omega) rfl⟩
end Go.Proofs.YtnpifgcgjgddoaaDoor.T

namespace Go.Proofs.YtnpifgcgjgddoaaDoor
open Go.RowKit
def oneP (s : ByteArray) (b : Nat) : Sum Tk (Nat × Int) :=
  if hdB (chr s b) = true then nameR s b else if dgB (chr s b) = true then nmR s b b 4 else if chr s b = 39 ∨ chr s b = 34 then litR s b
  else if chr s b = 91 then clT s b (rdRead s b) else if chr s b = 37 then pctP s b else sigP s b
end Go.Proofs.YtnpifgcgjgddoaaDoor

namespace Go.Proofs.YtnpifgcgjgddoaaDoor
open Go.RowKit
theorem gpGo_fuel (s : ByteArray) : ∀ (f g i : Nat), s.size - i < f → s.size - i < g → gpGo s f i = gpGo s g i := by
  intro f
  induction f with
  | zero => intro g i h; omega
  | succ f ih =>
    intro g i h1 h2
    obtain ⟨g, rfl⟩ : ∃ k, g = k + 1 := ⟨g - 1, by omega⟩
    rw [gpGo, gpGo]
    by_cases hi : i < s.size
    · rw [if_pos hi, if_pos hi]
      by_cases hc : chr s i = 45 ∧ chr s (i + 1) = 45
      · rw [if_pos hc, if_pos hc]
        have h3 := (spN_next (P := lnB) (s := s) (i := i) (by decide) (by rw [hc.1]; rfl)).2
        have h4 := spN_ge lnB s (by decide) (i + 1)
        exact ih g _ (by omega) (by omega)
      · rw [if_neg hc, if_neg hc]
        by_cases hb : chr s i = 9 ∨ chr s i = 10 ∨ chr s i = 13 ∨ chr s i = 32
        · rw [if_pos hb, if_pos hb]
          exact ih g _ (by omega) (by omega)
        · rw [if_neg hb, if_neg hb]
    · rw [if_neg hi, if_neg hi]
theorem gapN_unf (s : ByteArray) (i : Nat) : gapN s i = if i < s.size then (if chr s i = 45 ∧ chr s (i + 1) = 45 then gapN s (spN lnB s i) else if chr s i = 9 ∨ chr s i = 10 ∨ chr s i = 13 ∨ chr s i = 32 then gapN s (i + 1) else i) else i := by
  show gpGo s (s.size + 1) i = _
  rw [gpGo]
  by_cases hi : i < s.size
  · rw [if_pos hi, if_pos hi]
    by_cases hc : chr s i = 45 ∧ chr s (i + 1) = 45
    · rw [if_pos hc, if_pos hc]
      have h3 := (spN_next (P := lnB) (s := s) (i := i) (by decide) (by rw [hc.1]; rfl)).2
      have h4 := spN_ge lnB s (by decide) (i + 1)
      exact gpGo_fuel s _ _ _ (by omega) (by omega)
    · rw [if_neg hc, if_neg hc]
      by_cases hb : chr s i = 9 ∨ chr s i = 10 ∨ chr s i = 13 ∨ chr s i = 32
      · rw [if_pos hb, if_pos hb]
        exact gpGo_fuel s _ _ _ (by omega) (by omega)
      · rw [if_neg hb, if_neg hb]
  · rw [if_neg hi, if_neg hi]
end Go.Proofs.YtnpifgcgjgddoaaDoor

namespace Go.Proofs.YtnpifgcgjgddoaaDoor
open Go.RowKit
theorem litGo_en (s : ByteArray) (q : Int) (b : Nat) (hq : 0 ≤ q) : ∀ (f : Nat) (out : List Int) (i : Nat) (t : Tk), litGo s q b f out i = .inl t → ∃ e : Nat, t.en = e ∧ i < e ∧ e ≤ s.size := by
  intro f
  induction f with
  | zero => intro out i t h; rw [litGo] at h; cases h
  | succ f ih =>
    intro out i t h
    rw [litGo] at h
    split at h
    · cases h
    next h0 =>
    split at h
    next h1 =>
      split at h
      · cases h
      · cases h
        have := chr_lt (s := s) (i := i) (by omega)
        exact ⟨i + 1, rfl, by omega, by omega⟩
    split at h
    · cases h
    split at h
    · obtain ⟨e, h1, h2, h3⟩ := ih _ _ _ h
      exact ⟨e, h1, by omega, h3⟩
    · split at h
      · cases h
      · next c n he =>
        have h4 := escT_lt he
        obtain ⟨e, h1, h2, h3⟩ := ih _ _ _ h
        exact ⟨e, h1, by omega, h3⟩
theorem numR_en {s : ByteArray} {d : Nat} {m n : Int} (h : numR s d m = .inl n) : d < spN dgB s d := by
  unfold numR at h
  split at h
  · cases h
  · omega
theorem nmR_en {s : ByteArray} {b d : Nat} {k : Int} {t : Tk} (hd : d ≤ s.size) (h : nmR s b d k = .inl t) : ∃ e : Nat, t.en = e ∧ d < e ∧ e ≤ s.size := by
  unfold nmR at h
  cases hn : numR s d (gtK k) with
  | inr e => rw [hn] at h; cases h
  | inl n =>
    rw [hn] at h
    cases h
    exact ⟨_, rfl, numR_en hn, spN_le dgB s (by decide) d hd⟩
theorem grpP_en {s : ByteArray} {b d : Nat} {t : Tk} (hd : d ≤ s.size) (h : grpP s b d = .inl t) : ∃ e : Nat, t.en = e ∧ d ≤ e ∧ e ≤ s.size := by
  unfold grpP at h
  split at h
  · split at h
    · cases h
    · split at h
      · next hc =>
        cases h
        have h1 := spN_ge nmB s (by decide) d
        have h2 := chr_lt (s := s) (i := spN nmB s d) (by omega)
        exact ⟨_, rfl, by omega, by omega⟩
      · cases h; exact ⟨d, rfl, Nat.le_refl _, hd⟩
  · cases h; exact ⟨d, rfl, Nat.le_refl _, hd⟩
theorem sgGo_pos (s : ByteArray) (i : Nat) : ∀ l : List (Int × List UInt8), (∀ p ∈ l, p.1 ≠ 0 ∧ 1 ≤ p.2.length) → (sgGo s i l).1 = 0 ∨ 1 ≤ (sgGo s i l).2.length := by
  intro l
  induction l with
  | nil => intro _; exact .inl rfl
  | cons p l ih =>
    intro h
    rw [sgGo]
    split
    · exact .inr (h p (List.mem_cons_self ..)).2
    · exact ih (fun q hq => h q (List.mem_cons_of_mem _ hq))
theorem sgAt_pos (s : ByteArray) (i : Nat) : (sgAt s i).1 = 0 ∨ 1 ≤ (sgAt s i).2.length := sgGo_pos s i sgTab (by decide)
theorem sigP_en {s : ByteArray} {b : Nat} {t : Tk} (hb : b ≤ s.size) (h : sigP s b = .inl t) : ∃ e : Nat, t.en = e ∧ b < e ∧ e ≤ s.size := by
  have h1 := sgAt_len s b hb
  have h2 := sgAt_pos s b
  unfold sigP at h
  split at h
  · cases h
  next h0 =>
  have h3 : 1 ≤ (sgAt s b).2.length := by rcases h2 with q | q; exact absurd q h0; exact q
  split at h
  · obtain ⟨e, a1, a2, a3⟩ := nmR_en h1 h
    exact ⟨e, a1, by omega, a3⟩
  split at h
  · obtain ⟨e, a1, a2, a3⟩ := grpP_en h1 h
    exact ⟨e, a1, by omega, a3⟩
  · cases h
    exact ⟨_, rfl, by omega, h1⟩
theorem ptsP_en {s : ByteArray} {b : Nat} {t : Tk} (hb : b + 3 ≤ s.size) (h : ptsP s b = .inl t) : ∃ e : Nat, t.en = e ∧ b < e ∧ e ≤ s.size := by
  have h1 := ptP_le hb
  unfold ptsP at h
  split at h
  · cases h
  split at h
  · next h45 =>
    have h2 := chr_lt (s := s) (i := (ptP s (b + 3)).2.1) (by omega)
    have h3 := ptP_le (s := s) (a := (ptP s (b + 3)).2.1 + 1) (by omega)
    split at h
    · cases h
    split at h
    · next hc =>
      cases h
      have h4 := chr_lt (s := s) (i := (ptP s ((ptP s (b + 3)).2.1 + 1)).2.1) (by omega)
      exact ⟨_, rfl, by omega, by omega⟩
    · cases h
  · split at h
    · next hc =>
      cases h
      have h4 := chr_lt (s := s) (i := (ptP s (b + 3)).2.1) (by omega)
      exact ⟨_, rfl, by omega, by omega⟩
    · cases h
theorem pctP_en {s : ByteArray} {b : Nat} {t : Tk} (hb : b ≤ s.size) (h : pctP s b = .inl t) : ∃ e : Nat, t.en = e ∧ b < e ∧ e ≤ s.size := by
  unfold pctP at h
  split at h
  · next hp => exact ptsP_en (pfx_len hb hp) h
  split at h
  · exact sigP_en hb h
  split at h
  · next hc => cases h; exact ⟨_, rfl, by omega, by omega⟩
  · cases h
theorem rdRead_gt {s : ByteArray} {i : Nat} {x : BitVec 256} {n : Nat} (h : rdRead s i = .inl (x, n)) : i < n := by
  unfold rdRead at h
  split at h
  · simp at h
  · split at h
    · split at h
      · cases hm : rdMembers s (s.size + 1) 0#256 ((i : Int).toNat + 2) with
        | inr pq =>
          obtain ⟨a', c'⟩ := pq
          rw [hm] at h; simp [rdTurn] at h
        | inl p => obtain ⟨y, m⟩ := p; have b := rdMembers_ok hm; rw [hm] at h; simp only [rdTurn, Sum.inl.injEq, Prod.mk.injEq] at h; omega
      · cases hm : rdMembers s (s.size + 1) 0#256 ((i : Int).toNat + 1) with
        | inr pq =>
          obtain ⟨a', c'⟩ := pq
          rw [hm] at h; simp [rdEnd] at h
        | inl p => obtain ⟨y, m⟩ := p; have b := rdMembers_ok hm; rw [hm] at h; simp only [rdEnd, Sum.inl.injEq, Prod.mk.injEq] at h; omega
    · simp at h
theorem oneP_en (s : ByteArray) (b : Nat) (t : Tk) (hb : b < s.size) (h : oneP s b = .inl t) : ∃ e : Nat, t.en = e ∧ b < e ∧ e ≤ s.size := by
  unfold oneP at h
  split at h
  · next hh =>
    unfold nameR at h
    split at h
    · cases h
    · cases h
      have h1 := (spN_next (P := nmB) (s := s) (i := b) (by decide) (by unfold nmB; rw [hh]; rfl)).2
      have h2 := spN_ge nmB s (by decide) (b + 1)
      exact ⟨_, rfl, by omega, spN_le nmB s (by decide) b (by omega)⟩
  split at h
  · exact nmR_en (by omega) h
  split at h
  · next hq =>
    obtain ⟨e, a1, a2, a3⟩ := litGo_en s _ b (by omega) _ _ _ _ h
    exact ⟨e, a1, by omega, a3⟩
  split at h
  · cases hr : rdRead s b with
    | inr p =>
      rw [hr, clT] at h
      split at h <;> cases h
    | inl p =>
      obtain ⟨x, n⟩ := p
      rw [hr] at h
      cases h
      exact ⟨n, rfl, rdRead_gt hr, rdRead_ok hr⟩
  split at h
  · exact pctP_en (by omega) h
  · exact sigP_en (by omega) h
end Go.Proofs.YtnpifgcgjgddoaaDoor
