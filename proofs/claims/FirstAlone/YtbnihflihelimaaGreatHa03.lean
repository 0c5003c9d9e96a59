/- DERIVED. Plain mathematics and walks, laid together (3). -/
import Derived.Deep.RegionHeld3
import Derived.Deep.AppendLies
import Derived.Maps.Range
import Derived.OwnWalk
import Derived.Shelf.Abstract
import Derived.Laws.AppendOwnNone
import Derived.ProofKit
import Derived.Laws.OwnMore
import Derived.Test.YtbnihflihelimaaGreatHa02
namespace Go.Proofs.YtbnihflihelimaaGreat.T
open Go.RowKit
theorem Below.grow {w w' : World} (hb : Below w.heap.size w w') (row : Option Nat) : w.grownBy w' row := ⟨hb.os, hb.tape, hb.output, hb.size, fun k hk _ => hb.block k hk⟩
theorem own_below {w w' : World} {base e size : Nat} {v : Value} {n : Nat} {xs : List Value} (h : w.ownsRow base e size v n xs) (hb : Below w.heap.size w w') : w'.ownsRow base e size v n xs := by
  refine h.kept (row := none) (Below.grow hb none) ?_
  cases h2 : v.ownBlock
  · exact .inl rfl
  · exact .inr (by simp)
theorem own_cut {w : World} {base e size g n cap : Nat} {xs : List Value} (h : w.ownsRow base e size (.slice (some ⟨g, 0, none⟩) n cap) n xs) {m : Nat} (hm : m ≤ n) : w.ownsRow base e size (.slice (some ⟨g, 0, none⟩) m cap) m (xs.take (m * size)) := by
  obtain ⟨h1, h2⟩ := h
  rcases h2 with ⟨h2, _⟩ | ⟨g', cap', cur, h3, h4, h5, h6, h7, h8, h9⟩
  · cases h2
  · cases h3
    have hmul : m * size ≤ n * size := Nat.mul_le_mul_right _ hm
    refine ⟨by rw [List.length_take]; omega, .inr ⟨g, cap, cur, rfl, h4, h5, by omega, h7, h8, ?_⟩⟩
    rw [← h9, List.take_take]
    congr 1
    omega

/-- All but some blocks stay. -/
structure Kp (X : Nat → Prop) (w w' : World) : Prop where
  os : w'.os = w.os
  tape : w'.tape = w.tape
  output : w'.output = w.output
  size : w.heap.size ≤ w'.heap.size
  block : ∀ b, b < w.heap.size → ¬ X b → w'.heap[b]? = w.heap[b]?
theorem own_kp {w w' : World} {X : Nat → Prop} {base e size : Nat} {v : Value} {n : Nat} {xs : List Value} (h : w.ownsRow base e size v n xs) (hk : Kp X w w') (hd : ∀ g, v.ownBlock = some g → ¬ X g) : w'.ownsRow base e size v n xs := by
  refine ⟨h.1, ?_⟩
  rcases h.2 with hn | ⟨g, cap, cur, rfl, hb, hgg, rest⟩
  · exact .inl hn
  · refine .inr ⟨g, cap, cur, rfl, hb, ?_, rest⟩
    rw [hk.block g (Array.getElem?_eq_some_iff.1 hgg).1 (hd g rfl)]
    exact hgg

theorem ptc_get (l : List Pt) (j : Nat) (p : Pt) (h : l[j]? = some p) : ∀ i, i < 3 → (ptc l)[j * 3 + i]? = (ptV p)[i]? := by
  induction l generalizing j with
  | nil => cases h
  | cons a l ih =>
    intro i hi
    have e : ptc (a :: l) = ptV a ++ ptc l := rfl
    rw [e]
    cases j with
    | zero =>
      cases h
      rw [Nat.zero_mul, Nat.zero_add, List.getElem?_append_left (by show i < 3; exact hi)]
    | succ j =>
      have h2 : l[j]? = some p := by simpa using h
      have e7 : (ptV a).length = 3 := rfl
      rw [List.getElem?_append_right (by rw [e7]; omega), e7, show (j + 1) * 3 + i - 3 = j * 3 + i from by omega]
      exact ih j h2 i hi
abbrev ptG (p : Pt) : Value := .agg #[.int .i64 p.1, .int .i64 p.2.1, .int .i64 p.2.2]
theorem info_parts {P : Program} {t : TypeId} {z : Option Value} {s b : Nat} (h : (P.info? t).map (fun i => (i.zero, i.size, i.bytes)) = some (z, s, b)) : ∃ i, P.info? t = some i ∧ i.zero = z ∧ i.size = s ∧ i.bytes = b := by
  cases hi : P.info? t with
  | none => rw [hi] at h; cases h
  | some i => rw [hi] at h; simp only [Option.map_some, Option.some.injEq, Prod.mk.injEq] at h; exact ⟨i, rfl, h.1, h.2.1, h.2.2⟩
theorem Tryz.info59 : (Tryz.prog.info? 120).map (fun i => (i.zero, i.size, i.bytes)) = some (some (.agg #[.int .i64 0, .int .i64 0, .int .i64 0]), 3, 24) := by kernel_rfl
theorem kp_below {X : Nat → Prop} {Bc : Nat} {w w4 wA : World} (h : Below Bc w w4) (hk : Kp X w4.drew wA) (hx : ∀ b, X b → Bc ≤ b) (hB : Bc ≤ w4.heap.size) : Below Bc w wA :=
  ⟨hk.os.trans h.drew.os, hk.tape.trans h.drew.tape, hk.output.trans h.drew.output, Nat.le_trans h.size hk.size, fun b hb => (hk.block b (Nat.lt_of_lt_of_le hb hB) (fun q => by have := hx b q; omega)).trans (h.block b hb)⟩
theorem own_drew {w : World} {base e size : Nat} {v : Value} {n : Nat} {xs : List Value} (h : w.ownsRow base e size v n xs) : w.drew.ownsRow base e size v n xs := own_below h ((Below.refl _ _).drew)
/-- What a function that is handed each node keeps to. -/
structure See (L : List Nd) (F : Nat) (caps : Array Value) (Bc B : Nat) (J : Nat → (Nat → Prop) → World → Prop) : Prop where
  kept : ∀ k X w w', J k X w → w.heap.size ≤ w'.heap.size → (∀ b, (b < B ∨ X b) → w'.heap[b]? = w.heap[b]?) → J k X w'
  far : ∀ k X w, J k X w → ∀ b, X b → Bc ≤ b ∧ b < w.heap.size
  call : ∀ k X w A c, J k X w → B ≤ w.heap.size → k < L.length → (∀ j, j ≤ k → er L j = 0) → RdP w A ((run L k).take (arN (opAt L k))).reverse → (∀ a, A = some a → ¬ X a.block) →
    Calls Tryz.prog F (#[ptG (pt L k), .slice A (arN (opAt L k)) c] ++ caps) w fun e w' => (∃ u, e = .returned u) ∧ ∃ X', J (k + 1) X' w' ∧ Kp X w w' ∧ ∀ b, X' b → X b ∨ w.heap.size ≤ b

structure AtT (L : List Nd) (J : Nat → (Nat → Prop) → World → Prop) (Bc : Nat) (w wr : World) (k : Nat) (X : Nat → Prop) (v : Value) : Prop where
  o : wr.ownsRow w.heap.size 120 3 v (run L k).length (ptc (run L k).reverse)
  j : J k X wr
  d : ∀ g, v.ownBlock = some g → ¬ X g
  b : Below Bc w wr
  e : ∀ j, j < k → er L j = 0
theorem AtT.below {L : List Nd} {F : Nat} {caps : Array Value} {J : Nat → (Nat → Prop) → World → Prop} {Bc : Nat} {w wr w2 : World} {k : Nat} {X : Nat → Prop} {v : Value} (h : AtT L J Bc w wr k X v) (hs : See L F caps Bc w.heap.size J) (hB : Bc ≤ w.heap.size) (hb : Below wr.heap.size wr w2) : AtT L J Bc w w2 k X v :=
  ⟨own_below h.o hb, hs.kept k X wr w2 h.j hb.size (fun b hx => hb.block b (by
    rcases hx with q | q
    · exact Nat.lt_of_lt_of_le q h.b.size
    · exact (hs.far _ _ _ h.j b q).2)), h.d, h.b.trans (hb.mono (Nat.le_trans hB h.b.size)), h.e⟩

set_option maxRecDepth 100000 in
set_option maxHeartbeats 16000000 in
theorem through_any (L : List Nd) (F : Nat) (caps : Array Value) (J : Nat → (Nat → Prop) → World → Prop) (Ap : Option Addr) (cp Bc : Nat) (hL : L.length ≤ 140737488355328) (hT : ∀ n ∈ L, n.tx.size ≤ 140737488355328) (w : World) (hB : Bc ≤ w.heap.size) (hp : RdN w Ap L) (hpb : L ≠ [] → ∀ a, Ap = some a → a.block < Bc) (he : ∀ args w, (callFunc F args).run Tryz.prog w = .ok (.enter F args) w) (hs : See L F caps Bc w.heap.size J) (X0 : Nat → Prop) (h0 : J 0 X0 w) :
    Calls Tryz.prog 65 #[.slice Ap L.length cp, .func (.func F) #[] caps] w fun e w' => e = .returned (.tuple #[.int .i64 (ck L).1, .int .i64 (ck L).2]) ∧ Below Bc w w' ∧ ∃ k X, J k X w' ∧ ((ck L).2 = 0 → k = L.length) := by
  by_cases hlong : 2048 < L.length
  · have HE := (show Hid (ck L = (0, 2)) from ck_long hlong)
    have z : (2048 : Int) < (L.length : Int) := by omega
    have HJ := (show Hid (J 0 X0 w) from h0)
    clear hT hp hpb hs h0 he
    go_enter Tryz.func65, Tryz.ntmps65
    go_wp2_with fail
    go_ret2
    exact ⟨by rw [HE.out]; rfl, Below.refl _ _, 0, X0, HJ.out, fun q => by rw [HE.out] at q; cases q⟩
  have z : ¬ (2048 : Int) < (L.length : Int) := by omega
  have HS := (show Hid (See L F caps Bc w.heap.size J) from hs)
  have HB := (show Hid (Bc ≤ w.heap.size) from hB)
  have HP := (show Hid (RdN w Ap L) from hp)
  have HPb := (show Hid (L ≠ [] → ∀ a, Ap = some a → a.block < Bc) from hpb)
  have HA := (show Hid (AtT L J Bc w w 0 X0 (.slice none 0 0)) from ⟨World.ownsRow_nil _ _ _ _, h0, fun g q => by simp [Value.ownBlock] at q, Below.refl _ _, fun j q => by omega⟩)
  have HG := (show Hid (∀ k, k < L.length → ∃ n, L[k]? = some n ∧ n.tx.size ≤ 140737488355328 ∧ L ≠ []) from fun k hk => ⟨_, List.getElem?_eq_getElem hk, hT _ (List.getElem_mem hk), by rintro rfl; simp at hk⟩)
  have HN := (show Hid (¬ 2048 < L.length) from hlong)
  clear hT hp hpb hs h0 hB hlong
  obtain ⟨i0, hinf, hz0, hz1, hz2⟩ := info_parts Tryz.info59
  go_enter Tryz.func65, Tryz.ntmps65
  go_wp2_with fail
  go_loopw [6, 17] (fun v t wr => ∃ k : Nat, ∃ X, k ≤ L.length ∧ t = .int .i64 k ∧ Hid (AtT L J Bc w wr k X v)) (fun _ t _ => L.length - (intOf t).toNat)
  case atStart => exact ⟨0, X0, by omega, by go_num, HA⟩
  case round =>
    obtain ⟨k, X, hk, rfl, HW⟩ := hrel
    clear HA
    by_cases hlt : k < L.length
    · obtain ⟨n, hn, htx, hne⟩ := HG.out k hlt
      obtain ⟨gp, op, rfl, lp, cl⟩ := HP.out hne
      have hgb := HPb.out hne _ rfl
      have HNn := (show Hid (L[k]? = some n) from hn)
      have HAl : Hid (∀ w, Calls Tryz.prog 82 #[ndG n] w fun e w' => e = .returned (.int .i64 (alE n)) ∧ Below w.heap.size w w') := fun w => alone_any n htx w
      have HAr : Hid (∀ w, Calls Tryz.prog 43 #[.int .i64 n.op] w fun e w' => e = .returned (.int .i64 (ar n.op)) ∧ w' = w) := fun w => arity_any n.op w
      obtain ⟨c0, c1, c2, c3, c4, c5, c6⟩ := (cl.same (HW.out.b.block gp hgb)) k n hn
      have z0 : (0 : Int) ≤ (k : Int) := by omega
      have z1 : (k : Int) < (L.length : Int) := by omega
      have HCl := (show Hid (NdL w gp op L) from cl)
      have HXlt := (show Hid (∀ b, X b → b < wr.heap.size) from fun b hb => (HS.out.far _ _ _ HW.out.j b hb).2)
      have hwr2 : wr.heap.size ≤ wr.heap.size := Nat.le_refl _
      clear hn hne cl HG
      go_wp2_with fail
      refine (HAl.out _).mono ?_
      rintro e w2 ⟨rfl, b2⟩
      clear HAl c0 c1 c2 c3 c4 c5 c6
      have HBox := (show Hid (NB w2 wr.heap.size 0 n) from (nb_new wr n).below b2)
      have HW2 := (show Hid (AtT L J Bc w w2 k X _) from HW.out.below HS.out HB.out ((below_box wr (ndO n)).trans (b2.mono (below_box _ _).size)))
      have hsz2 : wr.heap.size ≤ w2.heap.size := Nat.le_trans (below_box wr (ndO n)).size b2.size
      clear b2 HW hwr2
      have hJn := HN.out
      by_cases hal : alE n = 0
      · have ta : (alE n != 0) = false := by rw [hal]; rfl
        have hrn := arN_of hal
        have HQ : Hid (er L k = if (run L k).length < arN n.op then 42 else if 60 < (pt L k).2.2 then 4 else 0) := (by show er L k = _; rw [er_of HNn.out, if_neg (by rw [hal]; simp)])
        have hlen := run_len L k
        have har := ar_hi n.op
        obtain ⟨A, cA, hv, hAo⟩ : ∃ A c, u6 = .slice A (run L k).length c ∧ (A = none ∧ run L k = [] ∧ c = 0 ∨ ∃ g, A = some ⟨g, 0, none⟩ ∧ g < w2.heap.size ∧ (run L k).length ≤ c) := by
          rcases HW2.out.o.2 with ⟨q1, q2⟩ | ⟨g, cap, cur, q1, q2, q3, q4, _⟩
          · exact ⟨none, 0, by rw [q1, q2], .inl ⟨rfl, List.eq_nil_of_length_eq_zero q2, rfl⟩⟩
          · exact ⟨_, cap, q1, .inr ⟨g, rfl, (Array.getElem?_eq_some_iff.1 q3).1, q4⟩⟩
        subst hv
        have b0 := HBox.out.c0
        rw [← hrn] at HAr
        rw [← hrn] at har
        generalize hrl : (run L k).length = m at *
        have HRl := (show Hid ((run L k).length = m) from hrl)
        have HAo := (show Hid _ from hAo)
        clear hAo hal hrl hrn
        generalize alE n = ea at *
        by_cases hfew : m < arN n.op
        · have HE := (show Hid (ck L = (k, 42)) from (by
            show ck L = _
            have e : er L k = 42 := by rw [HQ.out, if_pos hfew]
            rw [ck_bad hJn hlt HW2.out.e (by rw [e]; decide), e]))
          have zf : decide ((m : Int) - (arN n.op : Int) < 0) = true := decide_eq_true (by omega)
          have HBb := (show Hid (Below Bc w w2) from HW2.out.b)
          have HJ := (show Hid (J k X w2) from HW2.out.j)
          clear HQ HW2 HNn HS HB HP HPb HN HRl HAo
          go_wp2_with fail
          refine (HAr.out _).mono ?_
          rintro e w2 ⟨rfl, rfl⟩
          clear HAr HBox
          generalize arN n.op = aa at *
          go_wp2_with fail
          go_ret2
          exact ⟨by rw [HE.out]; rfl, HBb.out, k, X, HJ.out, fun q => by rw [HE.out] at q; cases q⟩
        · obtain ⟨r, hr⟩ : ∃ r, r + arN n.op = m := ⟨m - arN n.op, by omega⟩
          have HM := (show Hid (er L k = if 60 < (pt L k).2.2 then 4 else 0) from (by show er L k = _; rw [HQ.out, if_neg hfew]))
          have hrd := run_bd hk HW2.out.e
          obtain ⟨xs, hxs⟩ : ∃ xs, ((run L k).take (arN n.op)).reverse = xs := ⟨_, rfl⟩
          have hxl : xs.length = arN n.op := by rw [← hxs, List.length_reverse, List.length_take, HRl.out]; omega
          have hxb : ∀ x ∈ xs, x.1 ≤ 2048 ∧ x.2.1 < L.length ∧ x.2.2 ≤ 100 := fun x hx => by
            rw [← hxs] at hx
            obtain ⟨q1, q2, q3, _⟩ := hrd x (List.mem_of_mem_take (List.mem_reverse.1 hx))
            exact ⟨by omega, by omega, by omega⟩
          have hpm : pw L k n.op xs xs.length = pt L k := by
            rw [hxl, ← hxs, pw_mk L k n.op (run L k) (by rw [HRl.out]; omega)]
            unfold pt
            rw [op_of HNn.out]
          obtain ⟨A2, hA2, hA2r, hA2b⟩ : ∃ A2, (if cA = r then A else Option.map (fun x => x.add (r * 3)) A) = A2 ∧ RdP w2 A2 xs ∧ ∀ a, A2 = some a → ¬ X a.block ∧ a.block < w2.heap.size := by
            refine ⟨_, rfl, ?_, ?_⟩
            · intro hx0
              have ha0 : 0 < arN n.op := by rw [← hxl]; exact List.length_pos_iff.2 hx0
              rcases HAo.out with ⟨q1, q2, q3⟩ | ⟨g, q1, q2, q3⟩
              · have := HRl.out; rw [q2] at this; simp at this; omega
              · have hc : ¬ cA = r := by omega
                rw [if_neg hc, q1]
                refine ⟨g, r * 3, by rw [Option.map_some, Addr.add_lit, Nat.zero_add], q2, ?_⟩
                intro j p hj
                have hcl := HW2.out.o.cells (g := g) (by rw [q1]; rfl)
                have hj2 : (run L k).reverse[r + j]? = some p := by
                  have := rev_drop (run L k) (arN n.op) (by rw [HRl.out]; omega)
                  rw [hxs, HRl.out, show m - arN n.op = r from by omega] at this
                  rw [← this, List.getElem?_drop] at hj
                  exact hj
                have key : ∀ i u, i < 3 → (ptV p)[i]? = some u → w2.cell? ⟨g, (r + j) * 3 + i, none⟩ = some u := fun i u hi hu => by
                  have := hcl ((r + j) * 3 + i) u (by rw [ptc_get _ _ _ hj2 i hi]; exact hu)
                  rwa [Addr.add_lit, Nat.zero_add] at this
                have e3 : r * 3 + j * 3 = (r + j) * 3 := by omega
                rw [e3]
                exact ⟨key 0 _ (by omega) rfl, key 1 _ (by omega) rfl, key 2 _ (by omega) rfl⟩
            · intro a ha
              rcases HAo.out with ⟨q1, q2, q3⟩ | ⟨g, q1, q2, q3⟩
              · rw [q1] at ha; split at ha <;> cases ha
              · rw [q1] at ha
                have hX := HW2.out.d g (by rw [q1]; rfl)
                split at ha
                · cases ha; exact ⟨hX, q2⟩
                · rw [Option.map_some, Addr.add_lit] at ha; cases ha; exact ⟨hX, q2⟩
          have HAb : Hid (∀ W, Below w2.heap.size w2 W → Calls Tryz.prog 83 #[.slice (some ⟨gp, op, none⟩) L.length cp, .int .i64 k, .slice A2 (arN n.op) (cA - r)] W fun e w' => e = .returned (ptG (pt L k)) ∧ Below W.heap.size W w') := fun W hW => by
            have h := above_any L (some ⟨gp, op, none⟩) cp k n HNn.out (by omega) A2 (cA - r) xs (by rw [hxl]; exact arN_le _) hxb W (fun _ => ⟨gp, op, rfl, Nat.lt_of_lt_of_le lp (Nat.le_trans HW2.out.b.size hW.size), (HCl.out.same (HW2.out.b.block gp hgb)).same (hW.block gp (Nat.lt_of_lt_of_le lp HW2.out.b.size))⟩) (hA2r.below hW (Nat.le_refl _))
            rw [hxl] at h
            rw [hxl] at hpm
            rw [hpm] at h
            exact h
          have HR2 := (show Hid (RdP w2 A2 xs ∧ ∀ a, A2 = some a → ¬ X a.block ∧ a.block < w2.heap.size) from ⟨hA2r, hA2b⟩)
          have HX := (show Hid (((run L k).take (arN n.op)).reverse = xs) from hxs)
          clear hA2r hA2b hxs hxb hrd hpm HQ hfew hxl
          have hsub : (m : Int) - (arN n.op : Int) = (r : Int) := by omega
          have hmr : m - r = arN n.op := by omega
          have zr : (r : Int) ≤ (m : Int) := by omega
          go_wp2_with fail
          refine (HAr.out _).mono ?_
          rintro e w2 ⟨rfl, rfl⟩
          clear HAr
          have HOp := (show Hid (opAt L k = n.op) from op_of HNn.out)
          have HAx := (show Hid (arN n.op ≤ 2 ∧ r + arN n.op = m) from ⟨arN_le _, hr⟩)
          clear hr
          generalize haa : arN n.op = aa at *
          have HAa := (show Hid (arN n.op = aa) from haa)
          clear haa
          go_wp2_with fail
          refine (HAb.out _ (Below.refl _ _)).mono ?_
          rintro e w3 ⟨rfl, b3⟩
          have hsz3 : w2.heap.size ≤ w3.heap.size := b3.size
          clear HAb
          have HB3 := (show Hid (Below w2.heap.size w2 (w3.alloc (.cells #[.int .i64 (pt L k).1, .int .i64 (pt L k).2.1, .int .i64 (pt L k).2.2] 120))) from b3.alloc b3.size _)
          have HP3 := (show Hid (PB (w3.alloc (.cells #[.int .i64 (pt L k).1, .int .i64 (pt L k).2.1, .int .i64 (pt L k).2.2] 120)) w3.heap.size (pt L k).1 (pt L k).2.1 (pt L k).2.2) from PB.new _ _ _ _)
          by_cases hd : 60 < (pt L k).2.2
          · have HE := (show Hid (ck L = (k, 4)) from (by
              show ck L = _
              have e : er L k = 4 := by rw [HM.out, if_pos hd]
              rw [ck_bad hJn hlt HW2.out.e (by rw [e]; decide), e]))
            have zd : (60 : Int) < ((pt L k).2.2 : Int) := by omega
            have HBb := (show Hid (Below Bc w (w3.alloc (.cells #[.int .i64 (pt L k).1, .int .i64 (pt L k).2.1, .int .i64 (pt L k).2.2] 120))) from HW2.out.b.trans (HB3.out.mono (Nat.le_trans HB.out HW2.out.b.size)))
            have HJ := (show Hid (J k X (w3.alloc (.cells #[.int .i64 (pt L k).1, .int .i64 (pt L k).2.1, .int .i64 (pt L k).2.2] 120))) from (HW2.out.below HS.out HB.out HB3.out).j)
            clear HW2 HNn HS HB HP HPb HN HRl HAo HBox HB3 HP3 HM HR2 HX HOp HAx HAa b0 b3 HCl hA2 hmr hd
            generalize pt L k = P at *
            go_wp2_with fail
            go_ret2
            exact ⟨by rw [HE.out]; rfl, HBb.out, k, X, HJ.out, fun q => by rw [HE.out] at q; cases q⟩
          · have HE0 := (show Hid (er L k = 0) from (by show er L k = _; rw [HM.out, if_neg hd]))
            have zd : ¬ (60 : Int) < ((pt L k).2.2 : Int) := by omega
            have HW3 := (show Hid (AtT L J Bc w _ k X _) from HW2.out.below HS.out HB.out HB3.out)
            have HR3 := (show Hid (RdP (w3.alloc (.cells #[.int .i64 (pt L k).1, .int .i64 (pt L k).2.1, .int .i64 (pt L k).2.2] 120)) A2 xs) from HR2.out.1.below HB3.out (Nat.le_refl _))
            have HD3 := (show Hid (∀ a, A2 = some a → ¬ X a.block) from fun a ha => (HR2.out.2 a ha).1)
            clear HR2 HM HNn HP HPb HCl b3 HW2
            have HPt := (show Hid (run L (k + 1) = pt L k :: (run L k).drop aa) from by show run L (k + 1) = _; rw [run_succ, HOp.out, HAa.out])
            have HCall : Hid (∀ W, Below (w3.alloc (.cells #[.int .i64 (pt L k).1, .int .i64 (pt L k).2.1, .int .i64 (pt L k).2.2] 120)).heap.size (w3.alloc (.cells #[.int .i64 (pt L k).1, .int .i64 (pt L k).2.1, .int .i64 (pt L k).2.2] 120)) W →
                Calls Tryz.prog F (#[ptG (pt L k), .slice A2 aa (cA - r)] ++ caps) W fun e w' => (∃ u, e = .returned u) ∧ ∃ X', J (k + 1) X' w' ∧ Kp X W w' ∧ ∀ b, X' b → X b ∨ W.heap.size ≤ b) := fun W hW => by
              have hat := HW3.out.below HS.out HB.out hW
              have h := HS.out.call k X W A2 (cA - r) hat.j hat.b.size hlt (fun j hj => by
                by_cases q : j < k
                · exact hat.e j q
                · obtain rfl : j = k := by omega
                  exact HE0.out) (by rw [HOp.out, HAa.out, HX.out]; exact HR3.out.below hW (Nat.le_refl _)) HD3.out
              rw [HOp.out, HAa.out] at h
              exact h
            have k0 := HP3.out.c0
            have k1 := HP3.out.c1
            have k2 := HP3.out.c2
            generalize hw4 : w3.alloc (.cells #[.int .i64 (pt L k).1, .int .i64 (pt L k).2.1, .int .i64 (pt L k).2.2] 120) = w4 at *
            clear HB3
            have HKb := (show Hid (∀ W, Kp X w4.drew W → PB W w3.heap.size (pt L k).1 (pt L k).2.1 (pt L k).2.2) from fun W hW => HP3.out.same (hW.block _ HP3.out.lt (fun q => by have := HXlt.out _ q; omega)))
            go_wp2_with fail
            go_region_held3 (fun W => W.cell? ⟨w3.heap.size, 0, none⟩ = some (.int .i64 (pt L k).1) ∧ W.cell? ⟨w3.heap.size, 1, none⟩ = some (.int .i64 (pt L k).2.1) ∧ W.cell? ⟨w3.heap.size, 2, none⟩ = some (.int .i64 (pt L k).2.2))
              (first | go_keep | exact ⟨(HKb.out _ hkp).c0, (HKb.out _ hkp).c1, (HKb.out _ hkp).c2⟩)
              ((with_reducible refine (HCall.out _ ((Below.refl _ _).drew)).mono ?_; rintro e wA ⟨⟨u, rfl⟩, X', hj, hkp, hx⟩))
            rename_i hHeld
            have HOw := (show Hid (wA.ownsRow w.heap.size 120 3 (.slice A m cA) m (ptc (run L k).reverse)) from own_kp (own_drew (by have ho := HW3.out.o; rw [HRl.out] at ho; exact ho)) hkp HW3.out.d)
            have HXx := (show Hid (∀ g, (Value.slice A m cA).ownBlock = some g → w.heap.size ≤ g ∧ g < wA.heap.size ∧ ¬ X' g) from fun g hg => by
              obtain ⟨q1, q2⟩ := HOw.out.lt g hg
              refine ⟨q1, q2, fun q => ?_⟩
              rcases hx g q with q | q
              · exact HW3.out.d g hg q
              · have := (HW3.out.o.lt g hg).2
                have e : w4.drew.heap.size = w4.heap.size := rfl
                omega)
            have HBA := (show Hid (Below Bc w wA) from kp_below HW3.out.b hkp (fun b q => (HS.out.far _ _ _ HW3.out.j b q).1) (Nat.le_trans HB.out HW3.out.b.size))
            have HPA := (show Hid (PB wA w3.heap.size (pt L k).1 (pt L k).2.1 (pt L k).2.2) from HKb.out _ hkp)
            have HJA := (show Hid (J (k + 1) X' wA) from hj)
            have HEe := (show Hid (∀ j, j < k + 1 → er L j = 0) from fun j hj => by
                by_cases q : j < k
                · exact HW3.out.e j q
                · obtain rfl : j = k := by omega
                  exact HE0.out)
            have HOc : Hid (wA.ownsRow w.heap.size 120 3 (.slice A r cA) r (ptc ((run L k).drop aa).reverse)) := by
              show wA.ownsRow _ _ _ _ _ _
              have hre := rev_take (run L k) aa (by rw [HRl.out]; omega)
              rw [HRl.out, show m - aa = r from by omega] at hre
              have hpt : (ptc (run L k).reverse).take (r * 3) = ptc ((run L k).drop aa).reverse := by
                rw [← hre]
                have e := ptc_append ((run L k).reverse.take r) ((run L k).reverse.drop r)
                rw [List.take_append_drop] at e
                rw [e, List.take_append_of_le_length (by rw [ptc_len, List.length_take, List.length_reverse, HRl.out]; omega)]
                exact List.take_of_length_le (by rw [ptc_len, List.length_take, List.length_reverse, HRl.out]; omega)
              rcases HAo.out with ⟨q1, q2, q3⟩ | ⟨g, q1, q2, q3⟩
              · have hm0 : m = 0 := by have := HRl.out; rw [q2] at this; simpa using this.symm
                have hr0 : r = 0 := by omega
                rw [q1, q2, q3, hr0]
                exact ⟨by simp [ptc], .inl ⟨rfl, rfl⟩⟩
              · have ho := HOw.out
                rw [q1] at ho ⊢
                have := own_cut ho (m := r) (by omega)
                rw [hpt] at this
                exact this
            clear hHeld hkp hx hj HKb HCall HW3 HOw HR3 HD3 HP3 HE0 HX hA2 hmr k0 k1 k2 hw4 HBox b0
            have zc : (r : Int) ≤ (cA : Int) := by
              rcases HAo.out with ⟨q1, q2, q3⟩ | ⟨g, q1, q2, q3⟩
              · have := HRl.out; rw [q2] at this; have hm0 : m = 0 := by simpa using this.symm
                omega
              · omega
            have hra : (if cA = 0 then A else Option.map (fun x => x.add 0) A) = A := by
              rcases HAo.out with ⟨q1, q2, q3⟩ | ⟨g, q1, q2, q3⟩
              · rw [q1]; split <;> rfl
              · rw [q1]; split
                · rfl
                · rw [Option.map_some, Addr.add_lit]
            have hrm : r ≤ 2048 := by omega
            have hO := HOc.out
            have hbs := HBA.out.size
            have k0 := HPA.out.c0
            have k1 := HPA.out.c1
            have k2 := HPA.out.c2
            have HK := (show Hid (∀ W, (wA.alloc (.cells #[.int .i64 (pt L k).1, .int .i64 (pt L k).2.1, .int .i64 (pt L k).2.2] 120)).drew.grownBy W (Value.slice A r cA).ownBlock → W.cell? ⟨w3.heap.size, 0, none⟩ = some (.int .i64 (pt L k).1) ∧ W.cell? ⟨w3.heap.size, 1, none⟩ = some (.int .i64 (pt L k).2.1) ∧ W.cell? ⟨w3.heap.size, 2, none⟩ = some (.int .i64 (pt L k).2.2)) from fun W hW => by
              have hne : some w3.heap.size ≠ (Value.slice A r cA).ownBlock := by
                rcases HAo.out with ⟨q1, q2, q3⟩ | ⟨g, q1, q2, q3⟩
                · rw [q1]; simp [Value.ownBlock]
                · rw [q1]; intro e
                  have e2 : w3.heap.size = g := Option.some.inj e
                  omega
              have hp := (HPA.out.alloc (.cells #[.int .i64 (pt L k).1, .int .i64 (pt L k).2.1, .int .i64 (pt L k).2.2] 120))
              have hp2 : PB W w3.heap.size (pt L k).1 (pt L k).2.1 (pt L k).2.2 := hp.same ((hW.block _ hp.lt hne))
              exact ⟨hp2.c0, hp2.c1, hp2.c2⟩)
            go_wp2_with fail
            go_region_held3 (fun W => W.cell? ⟨w3.heap.size, 0, none⟩ = some (.int .i64 (pt L k).1) ∧ W.cell? ⟨w3.heap.size, 1, none⟩ = some (.int .i64 (pt L k).2.1) ∧ W.cell? ⟨w3.heap.size, 2, none⟩ = some (.int .i64 (pt L k).2.2)) (first | go_keep | exact HK.out _ hgrow) ((refine step_append_lies _ (by rfl) _ _ _ (by rfl) w.heap.size 120 i0 _ 3 24 Tryz.underlying121 hinf hz0 hz1 hz2 rfl (by omega) _ _ (ptc ((run L k).drop aa).reverse) (by rfl) ((hO.alloc _).drew) ⟨wA.heap.size, 0, none⟩ 1 1 [.int .i64 (pt L k).1, .int .i64 (pt L k).2.1, .int .i64 (pt L k).2.2] (by rfl) (by rfl) (World.news_of_block (cs := #[.int .i64 (pt L k).1, .int .i64 (pt L k).2.1, .int .i64 (pt L k).2.2]) (t := 120) (fr := (0, 0)) (heap_alloc_new wA _)) (by simp [Value.oneCell']) (by omega) (by unfold maxLen; omega) (by omega) (by simp; omega) (wA.heap.size + 1) (by simp) ?_; intro g cap w5 hown1 hgrow hat hltg))
            all_goals
              have hob : (Value.slice A r cA).ownBlock = (Value.slice A m cA).ownBlock := by cases A <;> rfl
              rw [hob] at hgrow hat
              have hfar := HS.out.far _ _ _ HJA.out
              have HW5 := (show Hid (AtT L J Bc w w5 (k + 1) X' (.slice (some ⟨g, 0, none⟩) (r + 1) cap)) from (by
                have hrn : (run L (k + 1)).length = r + 1 := by rw [HPt.out, List.length_cons, List.length_drop, HRl.out]; omega
                have hg0 : ∀ j, (Value.slice A m cA).ownBlock = some j → w.heap.size ≤ j := fun j e => (HXx.out j e).1
                refine ⟨?_, ?_, ?_, ?_, HEe.out⟩
                · rw [hrn, HPt.out, List.reverse_cons, ptc_append]
                  exact hown1
                · refine HS.out.kept (k + 1) X' wA w5 HJA.out (Nat.le_trans (by simp) hgrow.size) (fun b hb => ?_)
                  have hlt : b < wA.heap.size := by
                    rcases hb with hb | hb
                    · omega
                    · exact (hfar b hb).2
                  have h1 := hgrow.block b (by show b < (wA.alloc (.cells #[.int .i64 (pt L k).1, .int .i64 (pt L k).2.1, .int .i64 (pt L k).2.2] 120)).heap.size; rw [World.size_alloc]; omega) (by
                    intro e
                    have h3 := HXx.out b e.symm
                    rcases hb with hb | hb
                    · omega
                    · exact h3.2.2 hb)
                  exact h1.trans ((below_box wA _).block b hlt)
                · intro j e q
                  have e2 : g = j := Option.some.inj e
                  subst e2
                  rcases hat with hat | hat
                  · exact (HXx.out g hat).2.2 q
                  · have := (hfar g q).2; omega
                · exact ((HBA.out.alloc (Nat.le_trans HB.out hbs) (.cells #[.int .i64 (pt L k).1, .int .i64 (pt L k).2.1, .int .i64 (pt L k).2.2] 120)).drew).grown hgrow (Nat.le_trans HB.out (Nat.le_trans hbs (below_box wA (.cells #[.int .i64 (pt L k).1, .int .i64 (pt L k).2.1, .int .i64 (pt L k).2.2] 120)).size)) (fun j e => Nat.le_trans HB.out (hg0 j e))))
              rename_i hHeld
              clear hHeld hown1 hgrow hat hltg hO HK hfar hob k0 k1 k2 HPA HJA HXx HOc HBA HEe hra zc HAo
              go_wp2_with fail
              go_roundw
              case rel => exact ⟨k + 1, X', by omega, by go_num, HW5⟩
              case measure => simp [intOf]; omega
      · have HE := (show Hid (ck L = (k, alE n)) from (by
          show ck L = _
          have e : er L k = alE n := by rw [er_of HNn.out, if_pos hal]
          rw [ck_bad hJn hlt HW2.out.e (by rw [e]; exact hal), e]))
        have ta : (alE n != 0) = true := by rw [bne, beq_eq_false_iff_ne.2 hal]; rfl
        have HBb := (show Hid (Below Bc w w2) from HW2.out.b)
        have HJ := (show Hid (J k X w2) from HW2.out.j)
        clear HW2 HNn HS HB HP HPb HN HBox HAr
        have HH := (show Hid (¬ alE n = 0) from hal)
        clear hal
        generalize alE n = ea at *
        go_wp2_with fail
        go_ret2
        exact ⟨by rw [HE.out]; rfl, HBb.out, k, X, HJ.out, fun q => by rw [HE.out] at q; exact absurd q HH.out⟩
    · obtain rfl : k = L.length := by omega
      have HE := (show Hid (ck L = if (run L L.length).length = 1 then (0, 0) else (L.length, 42)) from ck_end HN.out HW.out.e)
      obtain ⟨A, cA, hv⟩ : ∃ A c, u6 = .slice A (run L L.length).length c := by
        rcases HW.out.o.2 with ⟨q1, q2⟩ | ⟨g, cap, cur, q1, q2, q3, q4, _⟩
        · exact ⟨none, 0, by rw [q1, q2]⟩
        · exact ⟨_, cap, q1⟩
      subst hv
      have HJ := (show Hid (J L.length X wr) from HW.out.j)
      have HBw := (show Hid (Below Bc w wr) from HW.out.b)
      clear HW HS HB HP HPb HG HN
      generalize (run L L.length).length = m at *
      by_cases h1 : m = 1
      · have t1 : ((m : Int) != 1) = false := by rw [bne, beq_iff_eq.2 (by omega)]; rfl
        have HE2 := (show Hid (ck L = (0, 0)) from by show ck L = _; rw [HE.out, if_pos h1])
        clear h1 HE
        go_wp2_with fail
        go_ret2
        exact ⟨by rw [HE2.out]; rfl, HBw.out, L.length, X, HJ.out, fun _ => rfl⟩
      · have t1 : ((m : Int) != 1) = true := by rw [bne, beq_eq_false_iff_ne.2 (by omega)]; rfl
        have HE2 := (show Hid (ck L = (L.length, 42)) from by show ck L = _; rw [HE.out, if_neg h1])
        clear h1 HE
        go_wp2_with fail
        go_ret2
        exact ⟨by rw [HE2.out]; rfl, HBw.out, L.length, X, HJ.out, fun _ => rfl⟩
end Go.Proofs.YtbnihflihelimaaGreat.T

namespace Go.Proofs.YtbnihflihelimaaGreat.T
open Go.RowKit
theorem enters37 (args : Array Value) (w : World) : (callFunc 134 args).run Tryz.prog w = .ok (.enter 134 args) w := enters_of Tryz.func134 (by kernel_rfl) rfl args w
set_option maxRecDepth 100000 in
set_option maxHeartbeats 1000000 in
theorem check1_any (p : Pt) (v : Value) (w : World) : Calls Tryz.prog 134 #[ptG p, v] w fun e w' => (∃ u, e = .returned u) ∧ Below w.heap.size w w' := by
  have HB := (show Hid (Below w.heap.size w (w.alloc (.cells #[.int .i64 p.1, .int .i64 p.2.1, .int .i64 p.2.2] 120))) from below_box _ _)
  go_enter Tryz.func134, Tryz.ntmps134
  go_wp2_with fail
  go_end0
  exact ⟨⟨_, rfl⟩, HB.out⟩
theorem see37 (L : List Nd) (Bc B : Nat) : See L 134 #[] Bc B (fun _ X _ => ∀ b, ¬ X b) :=
  ⟨fun _ _ _ _ h _ _ => h, fun _ _ _ h b q => absurd q (h b), fun k X w A c h _ _ _ _ _ => (check1_any (pt L k) (.slice A (arN (opAt L k)) c) w).mono fun _e _w' ⟨he, hb⟩ => ⟨he, X, h, ⟨hb.os, hb.tape, hb.output, hb.size, fun b hlt _ => hb.block b hlt⟩, fun _b q => .inl q⟩⟩

set_option maxRecDepth 100000 in
set_option maxHeartbeats 1000000 in
theorem check_any (L : List Nd) (Ap : Option Addr) (cp : Nat) (hL : L.length ≤ 140737488355328) (hT : ∀ n ∈ L, n.tx.size ≤ 140737488355328) (w : World) (hp : RdN w Ap L) :
    Calls Tryz.prog 130 #[.slice Ap L.length cp] w fun e w' => e = .returned (.tuple #[.int .i64 (ck L).1, .int .i64 (ck L).2]) ∧ Below w.heap.size w w' := by
  have H : Hid (∀ _ : Unit, Calls Tryz.prog 65 #[.slice Ap L.length cp, .func (.func 134) #[] #[]] w fun e w' => e = .returned (.tuple #[.int .i64 (ck L).1, .int .i64 (ck L).2]) ∧ Below w.heap.size w w' ∧ ∃ (k : Nat) (X : Nat → Prop), (∀ b, ¬ X b) ∧ ((ck L).2 = 0 → k = L.length)) := (fun _ => through_any L 134 #[] (fun _ X _ => ∀ b, ¬ X b) Ap cp w.heap.size hL hT w (Nat.le_refl _) hp (fun hne a ha => by
    obtain ⟨g, o, e, lt, _⟩ := hp hne
    rw [e] at ha
    cases ha
    exact lt) enters37 (see37 L _ _) (fun _ => False) (fun _ q => q))
  clear hp hT hL
  go_enter Tryz.func130, Tryz.ntmps130
  go_wp2_with fail
  refine (H.out ()).mono ?_
  rintro e w2 ⟨rfl, b2, _⟩
  clear H
  have HB := (show Hid _ from b2)
  clear b2
  go_wp2_with fail
  go_ret2
  exact ⟨rfl, HB.out⟩
end Go.Proofs.YtbnihflihelimaaGreat.T

namespace Go.Proofs.YtbnihflihelimaaGreat.T
open Go.RowKit
def zN (op : Int) : Nd := ⟨op, 0, ⟨#[]⟩, 0, 0, 0, 0⟩
theorem rd_one (w : World) (n : Nd) : RdN (w.alloc (ndO n)) (some ⟨w.heap.size, 0, none⟩) [n] := fun _ => ⟨w.heap.size, 0, rfl, by rw [World.size_alloc]; omega, fun j m hj => by
  cases j with
  | zero => cases hj; exact nb_new w n
  | succ j => simp at hj⟩
theorem one_len (n : Nd) : [n].length ≤ 140737488355328 := by rw [List.length_singleton]; omega
end Go.Proofs.YtbnihflihelimaaGreat.T

namespace Go.Proofs.YtbnihflihelimaaGreat.T
open Go.RowKit
theorem Tryz.info43 : (Tryz.prog.info? 70).map (fun i => (i.zero, i.size, i.bytes)) = some (some (.agg #[.int .i64 0, .int .i64 0, .string ⟨#[]⟩, .int .u64 0, .int .u64 0, .int .u64 0, .int .u64 0]), 7, 64) := by kernel_rfl
abbrev zA : Value := .agg #[.int .i64 0, .int .i64 0, .string ⟨#[]⟩, .int .u64 0, .int .u64 0, .int .u64 0, .int .u64 0]
theorem own_empty (w : World) : (w.alloc (.cells #[] 70)).ownsRow w.heap.size 70 7 (.slice (some ⟨w.heap.size, 0, none⟩) 0 0) 0 [] :=
  ⟨rfl, .inr ⟨w.heap.size, 0, #[], rfl, Nat.le_refl _, heap_alloc_new w _, Nat.le_refl _, Nat.zero_le _, rfl, rfl⟩⟩
theorem ndc_get (L : List Nd) (j : Nat) (n : Nd) (h : L[j]? = some n) : ∀ i, i < 7 → (ndc L)[j * 7 + i]? = (ndV n)[i]? := by
  induction L generalizing j with
  | nil => cases h
  | cons a L ih =>
    intro i hi
    have e : ndc (a :: L) = ndV a ++ ndc L := rfl
    rw [e]
    cases j with
    | zero =>
      cases h
      rw [Nat.zero_mul, Nat.zero_add, List.getElem?_append_left (by show i < 7; exact hi)]
    | succ j =>
      have h2 : L[j]? = some n := by simpa using h
      have e7 : (ndV a).length = 7 := rfl
      rw [List.getElem?_append_right (by rw [e7]; omega), e7, show (j + 1) * 7 + i - 7 = j * 7 + i from by omega]
      exact ih j h2 i hi
theorem nd_one (n : Nd) : ∀ u ∈ ndV n, u.oneCell' = true := fun u hu => by
  simp only [ndV, List.mem_cons, List.not_mem_nil, or_false] at hu
  rcases hu with rfl | rfl | rfl | rfl | rfl | rfl | rfl <;> rfl
theorem ndc_cell (L : List Nd) : ∀ u ∈ ndc L, u.oneCell' = true := fun u hu => by
  obtain ⟨n, _, hn⟩ := List.mem_flatMap.1 hu
  exact nd_one n u hn
theorem own_ndl {W : World} {B g n cap : Nat} {L : List Nd} {xs : List Value} (h : W.ownsRow B 70 7 (.slice (some ⟨g, 0, none⟩) n cap) n (ndc L ++ xs)) : NdL W g 0 L := fun j nd hj => by
  have hc := h.cells (g := g) rfl
  have hjl : j < L.length := by
    by_cases q : j < L.length
    · exact q
    · rw [List.getElem?_eq_none (by omega)] at hj; cases hj
  have key : ∀ i u, i < 7 → (ndV nd)[i]? = some u → W.cell? ⟨g, 0 + j * 7 + i, none⟩ = some u := fun i u hi hu => by
    have := hc (j * 7 + i) u (by rw [List.getElem?_append_left (by rw [ndc_len]; omega), ndc_get L j nd hj i hi]; exact hu)
    rw [Addr.add_lit] at this
    rw [Nat.add_assoc]
    exact this
  exact ⟨key 0 _ (by omega) rfl, key 1 _ (by omega) rfl, key 2 _ (by omega) rfl, key 3 _ (by omega) rfl, key 4 _ (by omega) rfl, key 5 _ (by omega) rfl, key 6 _ (by omega) rfl⟩
theorem in_cells {W : World} {ad : Addr} {L : List Nd} (h : RdN W (some ad) L) : ∀ (j : Nat) u, (ndc L)[j]? = some u → W.cell? (ad.add j) = some u := fun j u hj => by
  have hlt : j < L.length * 7 := by
    by_cases q : j < L.length * 7
    · exact q
    · rw [List.getElem?_eq_none (by rw [ndc_len]; omega)] at hj; cases hj
  obtain ⟨g, o, e, _, hc⟩ := h (by rintro rfl; simp at hlt)
  cases e
  have hd : j = j / 7 * 7 + j % 7 := by omega
  obtain ⟨nd, hn⟩ : ∃ nd, L[j / 7]? = some nd := ⟨_, List.getElem?_eq_getElem (by omega)⟩
  rw [hd, ndc_get L _ _ hn _ (by omega)] at hj
  obtain ⟨c0, c1, c2, c3, c4, c5, c6⟩ := hc _ _ hn
  rw [Addr.add_lit]
  generalize j / 7 = a at *
  have h7 : j % 7 < 7 := by omega
  generalize j % 7 = b at *
  subst hd
  rw [← Nat.add_assoc]
  match b, h7, hj with
  | 0, _, hj => cases hj; exact c0
  | 1, _, hj => cases hj; exact c1
  | 2, _, hj => cases hj; exact c2
  | 3, _, hj => cases hj; exact c3
  | 4, _, hj => cases hj; exact c4
  | 5, _, hj => cases hj; exact c5
  | 6, _, hj => cases hj; exact c6
end Go.Proofs.YtbnihflihelimaaGreat.T

namespace Go.Proofs.YtbnihflihelimaaGreat.T
open Go.RowKit
theorem Tryz.info3 : (Tryz.prog.info? 3).map (fun i => (i.zero, i.size, i.bytes)) = some (some (.int .i64 0), 1, 8) := by kernel_rfl
end Go.Proofs.YtbnihflihelimaaGreat.T

namespace Go.Proofs.YtbnihflihelimaaGreat.T
open Go.RowKit
theorem own_base {w : World} {a b e size : Nat} {v : Value} {n : Nat} {xs : List Value} (h : w.ownsRow b e size v n xs) (hab : a ≤ b) : w.ownsRow a e size v n xs := by
  obtain ⟨h1, h2⟩ := h
  refine ⟨h1, ?_⟩
  rcases h2 with h2 | ⟨g, cap, cur, h3, h4, h5⟩
  · exact .inl h2
  · exact .inr ⟨g, cap, cur, h3, Nat.le_trans hab h4, h5⟩
end Go.Proofs.YtbnihflihelimaaGreat.T

namespace Go.Proofs.YtbnihflihelimaaGreat.N
open Go.ChangeShapes Go.WideShapes Go.ChangeAt Go.RowKit
abbrev Nd := T.Nd
theorem own_same {W W' : World} {B e s n : Nat} {v : Value} {xs : List Value} (h : W.ownsRow B e s v n xs) (hk : ∀ k, v.ownBlock = some k → W'.heap[k]? = W.heap[k]?) : W'.ownsRow B e s v n xs := by
  refine ⟨h.1, ?_⟩
  rcases h.2 with hn | ⟨g, cap, cur, rfl, hB, hg, rest⟩
  · exact .inl hn
  · exact .inr ⟨g, cap, cur, rfl, hB, (hk g rfl).trans hg, rest⟩
theorem own_ty {W : World} {B e s n : Nat} {v : Value} {xs : List Value} (h : W.ownsRow B e s v n xs) {k : Nat} (hk : v.ownBlock = some k) : ∃ cur, W.heap[k]? = some (.cells cur e (0, 0)) := by
  rcases h.2 with ⟨rfl, _⟩ | ⟨g, cap, cur, rfl, _, hg, _⟩
  · cases hk
  · cases hk; exact ⟨cur, hg⟩
/-- The words of a node's set are words. -/
theorem own_apart {W : World} {B e s n B2 e2 s2 n2 : Nat} {v v2 : Value} {xs xs2 : List Value} (h : W.ownsRow B e s v n xs) (h2 : W.ownsRow B2 e2 s2 v2 n2 xs2) (hne : e ≠ e2) {k : Nat} (hk : v.ownBlock = some k) : v2.ownBlock ≠ some k := fun q => by
  obtain ⟨c1, h1⟩ := own_ty h hk
  obtain ⟨c2, h3⟩ := own_ty h2 q
  rw [h1] at h3
  injection h3 with h4
  injection h4 with _ h5
  exact hne h5
structure NdW (n : Nd) : Prop where
  a : 0 ≤ n.s0 ∧ n.s0 < 18446744073709551616
  b : 0 ≤ n.s1 ∧ n.s1 < 18446744073709551616
  c : 0 ≤ n.s2 ∧ n.s2 < 18446744073709551616
  d : 0 ≤ n.s3 ∧ n.s3 < 18446744073709551616

/-- A grammar in a box of its own. -/
structure GX (W : World) (k : Nat) (a : Value) : Prop where
  heap : W.heap[k]? = some (.cells #[a] 24 (0, 0))
theorem GX.lt {W : World} {k : Nat} {a : Value} (h : GX W k a) : k < W.heap.size := (Array.getElem?_eq_some_iff.1 h.heap).1
theorem GX.same {W W' : World} {k : Nat} {a : Value} (h : GX W k a) (hb : W'.heap[k]? = W.heap[k]?) : GX W' k a := ⟨hb.trans h.heap⟩
theorem GX.below {W W' : World} {k : Nat} {a : Value} (h : GX W k a) (hb : Below W.heap.size W W') : GX W' k a := h.same (hb.block k h.lt)
theorem GX.cl {W : World} {k : Nat} {a : Value} (h : GX W k a) : W.cell? ⟨k, 0, none⟩ = some a := by
  rw [cell_of_row W k 0 _ 24 (0, 0) h.heap]; rfl
/-- A slice of rules, read. -/
def GrD (W : World) (A : Option Addr) (gs : List (ByteArray × List Nd)) : Prop := ∀ (k : Nat) g, gs[k]? = some g → ∃ b o A2 c2, A = some ⟨b, o, none⟩ ∧ b < W.heap.size ∧ W.cell? ⟨b, o + k * 2, none⟩ = some (.string g.1) ∧ W.cell? ⟨b, o + k * 2 + 1, none⟩ = some (.slice A2 g.2.length c2) ∧ T.RdN W A2 g.2
theorem GrD.later {W W' : World} {A : Option Addr} {gs : List (ByteArray × List Nd)} (h : GrD W A gs) (hb : Below W.heap.size W W') : GrD W' A gs := fun k g hg => by
  obtain ⟨b, o, A2, c2, h1, h2, h3, h4, h5⟩ := h k g hg
  exact ⟨b, o, A2, c2, h1, Nat.lt_of_lt_of_le h2 hb.size, (hb.cell (p := ⟨b, o + k * 2, none⟩) h2).trans h3, (hb.cell (p := ⟨b, o + k * 2 + 1, none⟩) h2).trans h4, h5.below hb (Nat.le_refl _)⟩

theorem nw_of {n : Nd} (h : T.SeW n) : NdW n := ⟨h.1, h.2.1, h.2.2.1, h.2.2.2⟩
theorem Tryz.cells50 : Tryz.prog.cellsOf 50 = 2 := by kernel_rfl
theorem Tryz.cells24 : Tryz.prog.cellsOf 24 = 1 := by kernel_rfl
theorem Tryz.cells22 : Tryz.prog.cellsOf 22 = 1 := by kernel_rfl
theorem Tryz.cells41 : Tryz.prog.cellsOf 41 = 1 := by kernel_rfl
theorem Tryz.bytes50 : Tryz.prog.bytesOf 50 = 40 := by kernel_rfl
/-- What a rule that came in holds. -/
def RlIn (W : World) (g : ByteArray × List Nd) (A : Option Addr) (c : Nat) : Prop := T.RdN W A g.2 ∧ (A = none → c = 0 ∧ g.2 = []) ∧ g.1.size ≤ 140737488351232 ∧ g.2.length * 64 ≤ 140737488351232 ∧ (∀ n ∈ g.2, n.tx.size ≤ 140737488351232) ∧ ∀ n ∈ g.2, NdW n
/-- A grammar that came in. -/
structure GrIn (W : World) (A : Option Addr) (c : Nat) (gs : List (ByteArray × List Nd)) : Prop where
  d : GrD W A gs
  z : A = none → c = 0 ∧ gs = []
  len : gs.length * 40 ≤ 140737488351232
  each : ∀ (k : Nat) g, gs[k]? = some g → ∃ A2 c2, RlIn W g A2 c2 ∧ ∀ b o, A = some ⟨b, o, none⟩ → W.cell? ⟨b, o + k * 2 + 1, none⟩ = some (.slice A2 g.2.length c2)
set_option maxRecDepth 100000 in
theorem rule_in {H : Type} {enc : TypeId × Value → H} {W : World} {held : Bool} {n : Nat} {cs : List Value} {x : DataW H × List MemPlace} (h : DataW.trod enc Tryz.prog W 0 (fun _ => true) held n 50 cs = some x) (hs : ∀ m ∈ x.1.weights Tryz.prog 50, m ≤ reachBytes) :
    ∃ (s : ByteArray) (A : Option Addr) (c : Nat) (L : List Nd), cs = [.string s, .slice A L.length c] ∧ RlIn W (s, L) A c := by
  have hr : reachBytes = 140737488351232 := by decide
  obtain ⟨y0, y1, k, hx, hl, h0, h1⟩ := trod_struct2 Tryz.underlying50 h
  rw [Tryz.cells50] at hl
  match cs, hl with
  | [a, b], _ =>
    simp only [T.Tryz.cells9, Tryz.cells41, List.drop_zero, List.take_succ_cons, List.take_zero, List.drop_succ_cons] at h0 h1
    obtain ⟨s, e0, e1, _⟩ := DataW.trod_string Tryz.underlying9 h0
    have hd : x.1 = .agg [y0.1, y1.1] := congrArg Prod.fst hx
    rw [hd] at hs
    simp only [DataW.weights, Tryz.underlying50] at hs
    simp only [DataW.weightsEach, List.map_cons, List.map_nil, List.mem_append] at hs
    have hb : ∃ a l c, b = .slice a l c := by
      rcases Go.Deep.open_slice Tryz.underlying41 h1 with ⟨hc, _⟩ | ⟨a, len, cap, m, _, D, Pl, hc, _⟩
      · cases hc; exact ⟨_, _, _, rfl⟩
      · cases hc; exact ⟨_, _, _, rfl⟩
    have ht : DataW.Trod enc Tryz.prog W 0 (fun _ => true) held 41 b y1.1 y1.2 := by
      obtain ⟨a', l', c', rfl⟩ := hb
      exact ⟨k, h1⟩
    obtain ⟨A, c, L, rfl, r, nl, sz, sw⟩ := T.open_pat ht hb
    obtain ⟨s0, s1⟩ := sz (fun m hm => hs m (.inr (.inl hm)))
    have e0' : [a] = [Value.string s] := e0
    cases e0'
    refine ⟨s, A, c, L, rfl, r, nl, ?_, s0, s1, fun n hn => nw_of (sw n hn)⟩
    have := hs s.size (.inl (by rw [e1]; simp only [DataW.weights, List.mem_singleton]; rw [Array.length_toList]; rfl))
    rw [hr] at this
    exact this
set_option maxRecDepth 100000 in
theorem open_gram {H : Type} {enc : TypeId × Value → H} {W : World} {base : Nat} {held : Bool} {v : Value} {d : DataW H} {p : List MemPlace} (h : DataW.Trod enc Tryz.prog W 0 (fun _ => true) held 24 v d p) (hv : Value.okWide Tryz.prog W .any base 24 v) (hs : ∀ n ∈ d.weights Tryz.prog 24, n ≤ reachBytes) :
    ∃ A c gs, v = .agg #[.slice A (List.length (α := ByteArray × List Nd) gs) c] ∧ GrIn W A c gs := by
  have hr : reachBytes = 140737488351232 := by decide
  obtain ⟨cs, rfl, hcs⟩ := okWide_struct Tryz.underlying24 hv
  rw [Tryz.cells24] at hcs
  obtain ⟨l⟩ := cs
  match l, hcs with
  | [u], _ =>
    obtain ⟨fuel, hf⟩ := h
    have hf2 : DataW.trod enc Tryz.prog W 0 (fun _ => true) held fuel 24 [u] = some (d, p) := hf
    obtain ⟨y0, k, hx, _, h0⟩ := trod_struct1 Tryz.underlying24 hf2
    simp only [Tryz.cells22, List.drop_zero, List.take_succ_cons, List.take_zero] at h0
    have hd : d = .agg [y0.1] := congrArg Prod.fst hx
    rw [hd] at hs
    simp only [DataW.weights, Tryz.underlying24] at hs
    simp only [DataW.weightsEach, List.map_cons, List.map_nil, List.append_nil] at hs
    rcases Go.Deep.open_slice Tryz.underlying22 h0 with ⟨hc, hx⟩ | ⟨a, len, cap, m, n, D, Pl, hc, _, hl, hm, hmm, hx, hall⟩
    · have hc : [u] = [.slice none 0 0] := hc
      cases hc
      exact ⟨none, 0, [], rfl, ⟨(fun k g hg => by cases hg), fun _ => ⟨rfl, rfl⟩, (by simp), (fun k g hg => by cases hg)⟩⟩
    · have hc : [u] = [.slice (some a) len cap] := hc
      cases hc
      simp only [if_true] at hmm
      subst hmm
      have hd2 : y0.1 = .slice ((List.range len).map D) ((List.range (m - len)).map fun j => D (len + j)) := congrArg Prod.fst hx
      rw [hd2] at hs
      simp only [DataW.weights, Tryz.underlying22] at hs
      have each : ∀ i, i < len → ∃ q : (ByteArray × List Nd) × Option Addr × Nat, W.cell? (a.add (i * 2)) = some (.string q.1.1) ∧ W.cell? (a.add (i * 2 + 1)) = some (.slice q.2.1 q.1.2.length q.2.2) ∧ RlIn W q.1 q.2.1 q.2.2 := by
        intro i hi
        obtain ⟨cs', h1, h2⟩ := hall i (by omega)
        rw [Tryz.cells50] at h1
        obtain ⟨_, hlen, hcell⟩ := World.cells?_some h1
        obtain ⟨s, A, c, L, rfl, hri⟩ := rule_in h2 (fun k hk => hs k (List.mem_cons_of_mem _ (List.mem_append_left _ (T.weights_all _ 50 _ (D i) (List.mem_map.2 ⟨i, List.mem_range.2 hi, rfl⟩) _ hk))))
        refine ⟨((s, L), A, c), ?_, ?_, hri⟩
        · have e := hcell 0 (by show 0 < 2; omega)
          rw [Go.Deep.add_add] at e
          exact e
        · have e := hcell 1 (by show 1 < 2; omega)
          rw [Go.Deep.add_add] at e
          exact e
      obtain ⟨F, hF⟩ : ∃ F : Nat → (ByteArray × List Nd) × Option Addr × Nat, ∀ i, i < len → W.cell? (a.add (i * 2)) = some (.string (F i).1.1) ∧ W.cell? (a.add (i * 2 + 1)) = some (.slice (F i).2.1 (F i).1.2.length (F i).2.2) ∧ RlIn W (F i).1 (F i).2.1 (F i).2.2 :=
        ⟨fun i => if h : i < len then Classical.choose (each i h) else ((⟨#[]⟩, []), none, 0), fun i h => by simp only [dif_pos h]; exact Classical.choose_spec (each i h)⟩
      have get : ∀ (k : Nat) g, ((List.range len).map fun i => (F i).1)[k]? = some g → k < len ∧ g = (F k).1 := fun k g hg => by
        rw [List.getElem?_map] at hg
        have hk : k < len := by
          by_cases q : k < len
          · exact q
          · rw [List.getElem?_eq_none (by simp; omega)] at hg; cases hg
        rw [List.getElem?_range hk] at hg
        cases hg
        exact ⟨hk, rfl⟩
      refine ⟨some a, m, (List.range len).map fun i => (F i).1, by simp, ⟨fun k g hg => ?_, (fun q => by cases q), ?_, fun k g hg => ?_⟩⟩
      · obtain ⟨hk, rfl⟩ := get k g hg
        obtain ⟨q0, q1, q2⟩ := hF k hk
        obtain ⟨gb, off, spot⟩ := a
        have hspot : spot = none := by simpa [Addr.add] using World.cell?_spot (hF 0 (by omega)).1
        subst hspot
        rw [Addr.add_lit] at q0 q1
        exact ⟨gb, off, (F k).2.1, (F k).2.2, rfl, World.block_lt_of_cell? W _ q0, q0, by rw [Nat.add_assoc]; exact q1, q2.1⟩
      · have := hs _ (List.mem_cons_self ..)
        rw [Tryz.bytes50, hr] at this
        simp only [List.length_map, List.length_range] at this ⊢
        omega
      · obtain ⟨hk, rfl⟩ := get k g hg
        obtain ⟨q0, q1, q2⟩ := hF k hk
        refine ⟨(F k).2.1, (F k).2.2, q2, fun b o e => ?_⟩
        cases e
        rw [Addr.add_lit] at q1
        rw [Nat.add_assoc]
        exact q1
theorem GrIn.tx {W : World} {A : Option Addr} {c : Nat} {gs : List (ByteArray × List Nd)} (h : GrIn W A c gs) : ∀ g ∈ gs, g.1.size ≤ 140737488355328 ∧ g.2.length ≤ 140737488355328 ∧ ∀ n ∈ g.2, n.tx.size ≤ 140737488355328 := fun g hg => by
  obtain ⟨k, hk, rfl⟩ := List.mem_iff_getElem.1 hg
  obtain ⟨A2, c2, ⟨h1, h2, h3, h4, h5, h6⟩, _⟩ := h.each k _ (List.getElem?_eq_getElem hk)
  exact ⟨by omega, by omega, fun n hn => by have := h5 n hn; omega⟩
theorem GrIn.nw {W : World} {A : Option Addr} {c : Nat} {gs : List (ByteArray × List Nd)} (h : GrIn W A c gs) : ∀ g ∈ gs, ∀ n ∈ g.2, NdW n := fun g hg => by
  obtain ⟨k, hk, rfl⟩ := List.mem_iff_getElem.1 hg
  obtain ⟨A2, c2, ⟨h1, h2, h3, h4, h5, h6⟩, _⟩ := h.each k _ (List.getElem?_eq_getElem hk)
  exact h6
end Go.Proofs.YtbnihflihelimaaGreat.N

namespace Go.Proofs.YtbnihflihelimaaGreat.U
open Go.RowKit

theorem own_base {w : World} {a b e size : Nat} {v : Value} {n : Nat} {xs : List Value} (h : w.ownsRow b e size v n xs) (hab : a ≤ b) : w.ownsRow a e size v n xs := by
  obtain ⟨h1, h2⟩ := h
  refine ⟨h1, ?_⟩
  rcases h2 with h2 | ⟨g, cap, cur, h3, h4, h5⟩
  · exact .inl h2
  · exact .inr ⟨g, cap, cur, h3, Nat.le_trans hab h4, h5⟩
theorem below_grow {w w' : World} (hb : Below w.heap.size w w') (row : Option Nat) : w.grownBy w' row := ⟨hb.os, hb.tape, hb.output, hb.size, fun k hk _ => hb.block k hk⟩
theorem own_kept {w w' : World} {row : Option Nat} {base e size : Nat} {v : Value} {n : Nat} {xs : List Value} (h : w.ownsRow base e size v n xs) (hg : w.grownBy w' row) (hne : ∀ k, row = some k → v.ownBlock ≠ some k) : w'.ownsRow base e size v n xs := by
  refine h.kept hg ?_
  cases e1 : v.ownBlock with
  | none => exact .inl rfl
  | some g =>
    refine .inr fun e2 => ?_
    exact hne g e2.symm e1
theorem own_below {w w' : World} {base e size : Nat} {v : Value} {n : Nat} {xs : List Value} (h : w.ownsRow base e size v n xs) (hb : Below w.heap.size w w') : w'.ownsRow base e size v n xs :=
  own_kept h (below_grow hb none) (fun k e => by cases e)

/-- E: the rows' type; I: their elements' type; xs: the rows' values. -/
structure TT (W : World) (B E I : Nat) (v : Value) (M : List (List Value)) (xs : List Value) : Prop where
  o : W.ownsRow B E 1 v xs.length xs
  len : xs.length = M.length
  each : ∀ (i : Nat) x r, xs[i]? = some x → M[i]? = some r → W.ownsRow B I 1 x r.length r
  off : ∀ (i : Nat) x k, xs[i]? = some x → x.ownBlock = some k → v.ownBlock ≠ some k
  apart : ∀ (i j : Nat) x y k, xs[i]? = some x → xs[j]? = some y → i ≠ j → x.ownBlock = some k → y.ownBlock ≠ some k
section
variable {W W' : World} {B E I : Nat} {v : Value} {M : List (List Value)} {xs : List Value}
theorem TT.nil (W : World) (B E I : Nat) : TT W B E I (.slice none 0 0) [] [] :=
  ⟨World.ownsRow_nil _ _ _ _, rfl, (fun _ _ _ h => by cases h), (fun _ _ _ h => by cases h), (fun _ _ _ _ _ h => by cases h)⟩
theorem TT.at' (h : TT W B E I v M xs) {i : Nat} (hi : i < M.length) : ∃ x r, xs[i]? = some x ∧ M[i]? = some r ∧ W.ownsRow B I 1 x r.length r := by
  have hl := h.len
  refine ⟨xs[i]'(by omega), M[i], List.getElem?_eq_getElem _, List.getElem?_eq_getElem _, ?_⟩
  exact h.each i _ _ (List.getElem?_eq_getElem (by omega)) (List.getElem?_eq_getElem hi)
theorem TT.both (h : TT W B E I v M xs) {i : Nat} {x : Value} (hx : xs[i]? = some x) : ∃ r, M[i]? = some r ∧ W.ownsRow B I 1 x r.length r := by
  have hi := (List.getElem?_eq_some_iff.1 hx).1
  obtain ⟨y, r, h1, h2, h3⟩ := h.at' (i := i) (by rw [← h.len]; exact hi)
  rw [hx] at h1
  cases h1
  exact ⟨r, h2, h3⟩
theorem TT.lt (h : TT W B E I v M xs) {i : Nat} {x : Value} (hx : xs[i]? = some x) {k : Nat} (hk : x.ownBlock = some k) : B ≤ k ∧ k < W.heap.size := by
  obtain ⟨r, _, h3⟩ := h.both hx
  exact h3.lt k hk
theorem TT.kept {row : Option Nat} (h : TT W B E I v M xs) (hg : W.grownBy W' row) (hv : ∀ k, row = some k → v.ownBlock ≠ some k) (hx : ∀ (i : Nat) x k, xs[i]? = some x → row = some k → x.ownBlock ≠ some k) : TT W' B E I v M xs :=
  ⟨own_kept h.o hg hv, h.len, fun i x r q1 q2 => own_kept (h.each i x r q1 q2) hg (fun k e => hx i x k q1 e), h.off, h.apart⟩
theorem TT.below (h : TT W B E I v M xs) (hb : Below W.heap.size W W') : TT W' B E I v M xs :=
  h.kept (below_grow hb none) (fun k e => by cases e) (fun i x k _ e => by cases e)
theorem TT.alloc (h : TT W B E I v M xs) (o : Obj) : TT (W.alloc o) B E I v M xs := h.below ((Below.refl _ _).alloc (Nat.le_refl _) _)
theorem TT.drew (h : TT W B E I v M xs) : TT W.drew B E I v M xs := h.below (Below.refl _ _).drew
theorem TT.base (h : TT W B E I v M xs) {A : Nat} (hab : A ≤ B) : TT W A E I v M xs :=
  ⟨own_base h.o hab, h.len, fun i x r q1 q2 => own_base (h.each i x r q1 q2) hab, h.off, h.apart⟩
/-- A block that is none of its own. -/
def Out (v : Value) (xs : List Value) (k : Nat) : Prop := v.ownBlock ≠ some k ∧ ∀ (i : Nat) x, xs[i]? = some x → x.ownBlock ≠ some k
theorem TT.new (h : TT W B E I v M xs) {k : Nat} (hk : W.heap.size ≤ k) : Out v xs k :=
  ⟨fun e => by have := (h.o.lt k e).2; omega, fun i x hx e => by have := (h.lt hx e).2; omega⟩
theorem TT.old (h : TT W B E I v M xs) {k : Nat} (hk : k < B) : Out v xs k :=
  ⟨fun e => by have := (h.o.lt k e).1; omega, fun i x hx e => by have := (h.lt hx e).1; omega⟩
theorem TT.turn (h : TT W B E I v M xs) {k : Nat} (ho : Out v xs k) (hg : W.grownBy W' (some k)) : TT W' B E I v M xs :=
  h.kept hg (fun j e => by cases e; exact ho.1) (fun i x j hx e => by cases e; exact ho.2 i x hx)
/-- A row more. -/
theorem TT.push {W1 : World} {y v' : Value} {s : List Value} (h : TT W B E I v M xs) (hy : W.ownsRow B I 1 y s.length s) (hyo : ∀ k, y.ownBlock = some k → Out v xs k)
    (hown : W1.ownsRow B E 1 v' (xs.length + 1) (xs ++ [y])) (hgrow : W.grownBy W1 v.ownBlock) (hat : ∀ k, v'.ownBlock = some k → v.ownBlock = some k ∨ W.heap.size ≤ k) : TT W1 B E I v' (M ++ [s]) (xs ++ [y]) := by
  have hv' : ∀ (x : Value) k, x.ownBlock = some k → k < W.heap.size → v.ownBlock ≠ some k → v'.ownBlock ≠ some k := fun x k _ hlt hne e => by
    rcases hat k e with q | q
    · exact hne q
    · omega
  have hlen := h.len
  have split : ∀ (i : Nat) x, (xs ++ [y])[i]? = some x → (i < xs.length ∧ xs[i]? = some x) ∨ (i = xs.length ∧ x = y) := fun i x hx => by
    by_cases hi : i < xs.length
    · rw [List.getElem?_append_left hi] at hx; exact .inl ⟨hi, hx⟩
    · rw [List.getElem?_append_right (by omega)] at hx
      have hi0 : i - xs.length = 0 := by
        by_cases q : i - xs.length = 0
        · exact q
        · rw [List.getElem?_eq_none (by simp; omega)] at hx; cases hx
      rw [hi0] at hx
      cases hx
      exact .inr ⟨by omega, rfl⟩
  refine ⟨by rw [List.length_append]; exact hown, by rw [List.length_append, List.length_append, hlen]; rfl, ?_, ?_, ?_⟩
  · intro i x r hx hr
    rcases split i x hx with ⟨hi, hx⟩ | ⟨hi, rfl⟩
    · rw [List.getElem?_append_left (by omega)] at hr
      exact own_kept (h.each i x r hx hr) hgrow (fun k e q => h.off i x k hx q e)
    · rw [List.getElem?_append_right (by omega), show i - M.length = 0 by omega] at hr
      cases hr
      exact own_kept hy hgrow (fun k e q => (hyo k q).1 e)
  · intro i x k hx hk
    rcases split i x hx with ⟨hi, hx⟩ | ⟨hi, rfl⟩
    · exact hv' x k hk (h.lt hx hk).2 (h.off i x k hx hk)
    · exact hv' x k hk (hy.lt k hk).2 (hyo k hk).1
  · intro i j x z k hx hz hij hk
    rcases split i x hx with ⟨hi, hx1⟩ | ⟨hi, rfl⟩
    · rcases split j z hz with ⟨hj, hz⟩ | ⟨hj, rfl⟩
      · exact h.apart i j x z k hx1 hz hij hk
      · exact fun e => (hyo k e).2 i x hx1 hk
    · rcases split j z hz with ⟨hj, hz⟩ | ⟨hj, rfl⟩
      · exact (hyo k hk).2 j z hz
      · omega
/-- A row in the place of another one. -/
theorem TT.put {g cap i : Nat} {y : Value} {s : List Value} (h : TT W B E I (.slice (some ⟨g, 0, none⟩) xs.length cap) M xs) (hy : W.ownsRow B I 1 y s.length s) (hyo : ∀ k, y.ownBlock = some k → Out (.slice (some ⟨g, 0, none⟩) xs.length cap) xs k) (hi : i < xs.length) :
    TT (W.setCell ⟨g, i, none⟩ y) B E I (.slice (some ⟨g, 0, none⟩) xs.length cap) (M.set i s) (xs.set i y) := by
  obtain ⟨st1, st2⟩ := h.o.stored i y
  have hlen := h.len
  have split : ∀ (j : Nat) x, (xs.set i y)[j]? = some x → (j ≠ i ∧ xs[j]? = some x) ∨ (j = i ∧ x = y) := fun j x hx => by
    by_cases hj : j = i
    · subst hj
      rw [List.getElem?_set_self hi] at hx
      cases hx
      exact .inr ⟨rfl, rfl⟩
    · rw [List.getElem?_set_ne (Ne.symm hj)] at hx
      exact .inl ⟨hj, hx⟩
  refine ⟨by rw [List.length_set]; exact st1, by rw [List.length_set, List.length_set]; exact h.len, ?_, ?_, ?_⟩
  · intro j x r hx hr
    rcases split j x hx with ⟨hj, hx⟩ | ⟨hj, rfl⟩
    · rw [List.getElem?_set_ne (Ne.symm hj)] at hr
      exact own_kept (h.each j x r hx hr) st2 (fun k e q => by cases e; exact h.off j x g hx q rfl)
    · subst hj
      rw [List.getElem?_set_self (by omega)] at hr
      cases hr
      exact own_kept hy st2 (fun k e q => by cases e; exact (hyo g q).1 rfl)
  · intro j x k hx hk
    rcases split j x hx with ⟨hj, hx⟩ | ⟨hj, rfl⟩
    · exact h.off j x k hx hk
    · exact (hyo k hk).1
  · intro a b x z k hx hz hab hk
    rcases split a x hx with ⟨ha, hx1⟩ | ⟨ha, rfl⟩
    · rcases split b z hz with ⟨hb, hz⟩ | ⟨hb, rfl⟩
      · exact h.apart a b x z k hx1 hz hab hk
      · exact fun e => (hyo k e).2 a x hx1 hk
    · rcases split b z hz with ⟨hb, hz⟩ | ⟨hb, rfl⟩
      · exact (hyo k hk).2 b z hz
      · omega
/-- An entry is written. -/
theorem TT.store {g cap i n j : Nat} {r : List Value} (h : TT W B E I v M xs) (hx : xs[i]? = some (.slice (some ⟨g, 0, none⟩) n cap)) (hr : M[i]? = some r) (u : Value) : TT (W.setCell ⟨g, j, none⟩ u) B E I v (M.set i (r.set j u)) xs ∧ W.grownBy (W.setCell ⟨g, j, none⟩ u) (some g) := by
  have hrow := h.each i _ r hx hr
  have hn : n = r.length := by
    rcases hrow.2 with ⟨q, _⟩ | ⟨g', c', cur, q, _⟩
    · cases q
    · cases q; rfl
  subst hn
  obtain ⟨st1, st2⟩ := hrow.stored j u
  have hi := (List.getElem?_eq_some_iff.1 hr).1
  refine ⟨⟨own_kept h.o st2 (fun k e q => ?_), by rw [List.length_set]; exact h.len, ?_, h.off, h.apart⟩, st2⟩
  · cases e; exact h.off i _ g hx rfl q
  · intro k x s hk hs
    by_cases hki : k = i
    · subst hki
      rw [List.getElem?_set_self hi] at hs
      cases hs
      rw [hx] at hk
      cases hk
      rw [List.length_set]
      exact st1
    · rw [List.getElem?_set_ne (Ne.symm hki)] at hs
      exact own_kept (h.each k x s hk hs) st2 (fun m e q => by cases e; exact h.apart k i x _ g hk hx hki q rfl)
/-- A table of rows that are nil. -/
theorem TT.made {n : Nat} (h : W.ownsRow B E 1 v n (List.replicate n (.slice none 0 0))) : TT W B E I v (List.replicate n []) (List.replicate n (.slice none 0 0)) := by
  have at0 : ∀ (i : Nat) x, (List.replicate n (Value.slice none 0 0))[i]? = some x → x = .slice none 0 0 := fun i x hx => by
    rw [List.getElem?_replicate] at hx
    split at hx <;> cases hx
    rfl
  refine ⟨by rw [List.length_replicate]; exact h, by rw [List.length_replicate, List.length_replicate], ?_, ?_, ?_⟩
  · intro i x r hx hr
    rw [List.getElem?_replicate] at hr
    split at hr <;> cases hr
    rw [at0 i x hx]
    exact World.ownsRow_nil _ _ _ _
  · intro i x k hx hk
    rw [at0 i x hx] at hk
    cases hk
  · intro i j x y k hx _ _ hk
    rw [at0 i x hx] at hk
    cases hk
end
end Go.Proofs.YtbnihflihelimaaGreat.U

namespace Go.Proofs.YtbnihflihelimaaGreat.U
open Go.RowKit
theorem grow_alloc {W W' : World} {o : Obj} {row : Option Nat} (h : (W.alloc o).grownBy W' row) : W.grownBy W' row :=
  ⟨h.os, h.tape, h.output, Nat.le_trans (by rw [World.size_alloc]; omega) h.size, fun k hk hne => (h.block k (by rw [World.size_alloc]; omega) hne).trans (((Below.refl W.heap.size W).alloc (Nat.le_refl _) o).block k hk)⟩
theorem info_split {P : Program} {e : TypeId} {z : Value} {s b : Nat} (h : (P.info? e).map (fun i => (i.zero, i.size, i.bytes)) = some (some z, s, b)) : ∃ i, P.info? e = some i ∧ i.zero = some z ∧ i.size = s ∧ i.bytes = b := by
  cases hi : P.info? e with
  | none => rw [hi] at h; cases h
  | some i =>
    rw [hi] at h
    have h2 := Option.some.inj h
    exact ⟨i, rfl, congrArg Prod.fst h2, congrArg (fun x => x.2.1) h2, congrArg (fun x => x.2.2) h2⟩
/-- One more behind a row that the call owns. -/
theorem wpList_app1 {P : Program} {ops : Array Oper} {rest : List Oper} {o : Oper} {a : Act} {Q : Exit → Act → World → Prop} {W : World} {u : Value} {e : TypeId} (hgd : o.guard = none) (s x : Operand) (t : TypeId)
    (ho : o.op = .call { callee := .builtin .append, args := #[s, x], argTypes := #[t, t] }) (z : Value) (bytes : Nat) (ht : P.underlying t = some (.slice e)) (hi : (P.info? e).map (fun i => (i.zero, i.size, i.bytes)) = some (some z, 1, bytes)) (hzs : z.cells.size = 1)
    (base n : Nat) (v : Value) (xs : List Value) (hs : a.eval s = v) (hx : a.eval x = .slice (some ⟨W.heap.size, 0, none⟩) 1 1) (hown : W.ownsRow base e 1 v n xs) (h1 : u.oneCell' = true) (hn : n ≤ 1000000) (hb : bytes ≤ 64) (hbase : base ≤ W.heap.size)
    (h : ∀ g cap w', w'.ownsRow base e 1 (.slice (some ⟨g, 0, none⟩) (n + 1) cap) (n + 1) (xs ++ [u]) → W.grownBy w' v.ownBlock → (v.ownBlock = some g ∨ g = W.heap.size + 1) → g < w'.heap.size → wpList P ops Q rest (a.put o.dst (.slice (some ⟨g, 0, none⟩) (n + 1) cap)) w') :
    wpList P ops Q (o :: rest) a (W.alloc (.cells #[u] e)) := by
  obtain ⟨i, hinf, hz, hz1, hz2⟩ := info_split hi
  refine wpList_append_lies (W.alloc (.cells #[u] e)) hgd s x t ho base e i z 1 bytes ht hinf hz hz1 hz2 hzs (by decide) v n xs hs (hown.alloc _) ⟨W.heap.size, 0, none⟩ 1 1 [u] hx rfl ?_ (fun y hy => by rw [List.mem_singleton.1 hy]; exact h1) (by decide) ?_ ?_ ?_ (W.heap.size + 1) (by rw [World.size_alloc]) ?_
  · intro j y hy
    exact World.news_of_block (heap_alloc_new W (.cells #[u] e)) j y hy
  · unfold maxLen; omega
  · have : (n + 1) * bytes ≤ 1000001 * 64 := Nat.mul_le_mul (by omega) hb
    omega
  · rw [World.size_alloc]; omega
  · intro g cap w' h2 h3 h4 h5
    exact h g cap w' h2 (grow_alloc h3) h4 h5
theorem wpList_app1H {P : Program} {ops : Array Oper} {rest : List Oper} {o : Oper} {a : Act} {Q : Exit → Act → World → Prop} {W : World} {u : Value} {e : TypeId} (H : Nat) (hH : W.heap.size = H) (hgd : o.guard = none) (s x : Operand) (t : TypeId)
    (ho : o.op = .call { callee := .builtin .append, args := #[s, x], argTypes := #[t, t] }) (z : Value) (bytes : Nat) (ht : P.underlying t = some (.slice e)) (hi : (P.info? e).map (fun i => (i.zero, i.size, i.bytes)) = some (some z, 1, bytes)) (hzs : z.cells.size = 1)
    (base n : Nat) (v : Value) (xs : List Value) (hs : a.eval s = v) (hx : a.eval x = .slice (some ⟨H, 0, none⟩) 1 1) (hown : W.ownsRow base e 1 v n xs) (h1 : u.oneCell' = true) (hn : n ≤ 1000000) (hb : bytes ≤ 64) (hbase : base ≤ W.heap.size)
    (h : ∀ g cap w', w'.ownsRow base e 1 (.slice (some ⟨g, 0, none⟩) (n + 1) cap) (n + 1) (xs ++ [u]) → W.grownBy w' v.ownBlock → (v.ownBlock = some g ∨ g = H + 1) → g < w'.heap.size → wpList P ops Q rest (a.put o.dst (.slice (some ⟨g, 0, none⟩) (n + 1) cap)) w') :
    wpList P ops Q (o :: rest) a (W.alloc (.cells #[u] e)) := by
  subst hH
  exact wpList_app1 hgd s x t ho z bytes ht hi hzs base n v xs hs hx hown h1 hn hb hbase h
/-- Numbers as values. -/
def nI (x : Nat) : Value := .int .i64 (x : Int)
theorem own_get {W : World} {B e n : Nat} {v : Value} {xs : List Value} (h : W.ownsRow B e 1 v n xs) {j : Nat} {x : Value} (hj : xs[j]? = some x) : ∃ g cap, v = .slice (some ⟨g, 0, none⟩) n cap ∧ B ≤ g ∧ g < W.heap.size ∧ W.cell? ⟨g, j, none⟩ = some x ∧ W.frozen? ⟨g, j, none⟩ = false := by
  have hl := h.1
  have hj2 := (List.getElem?_eq_some_iff.1 hj).1
  obtain ⟨g, cap, rfl, hb, hg⟩ := h.form (by omega)
  exact ⟨g, cap, rfl, hb, hg, (h.cellAt j (by omega)).trans hj, h.frozenAt j⟩
theorem own_slice {W : World} {B e n : Nat} {v : Value} {xs : List Value} (h : W.ownsRow B e 1 v n xs) : ∃ A cap, v = .slice A n cap := by
  rcases h.2 with ⟨rfl, rfl⟩ | ⟨g, cap, cur, rfl, _⟩
  · exact ⟨_, _, rfl⟩
  · exact ⟨_, _, rfl⟩
/-- What is written lies behind a block: what stands ahead of it is as it was. -/
theorem below_grown {w W W' : World} {row : Option Nat} (h : Below w.heap.size w W) (hg : W.grownBy W' row) (hr : ∀ k, row = some k → w.heap.size ≤ k) : Below w.heap.size w W' := h.grown hg h.size (fun j hj => hr j hj)
end Go.Proofs.YtbnihflihelimaaGreat.U

namespace Go.Proofs.YtbnihflihelimaaGreat.N
open Go.RowKit Go.Maps
open Go.Proofs.YtbnihflihelimaaGreat.T
/-- What is known, as the program lays it. -/
def emV (e : Em) : List Value := [.bool e.nu, .bool e.cf, .int .i64 e.le, .int .i64 e.mo]
abbrev emG (e : Em) : Value := .agg #[.bool e.nu, .bool e.cf, .int .i64 e.le, .int .i64 e.mo]
abbrev emO (e : Em) : Obj := .cells #[.bool e.nu, .bool e.cf, .int .i64 e.le, .int .i64 e.mo] 74
def emc (l : List Em) : List Value := l.flatMap emV
theorem emc_len (l : List Em) : (emc l).length = l.length * 4 := by
  induction l with
  | nil => rfl
  | cons a l ih =>
    have e : emc (a :: l) = emV a ++ emc l := rfl
    rw [e, List.length_append, ih, List.length_cons]
    show 4 + _ = _
    omega
theorem emc_app (a b : List Em) : emc (a ++ b) = emc a ++ emc b := List.flatMap_append
theorem emc_one (x : Em) : emc [x] = emV x := by unfold emc; rw [List.flatMap_cons, List.flatMap_nil, List.append_nil]
theorem emc_get (l : List Em) (j : Nat) (x : Em) (h : l[j]? = some x) : ∀ i, i < 4 → (emc l)[j * 4 + i]? = (emV x)[i]? := by
  induction l generalizing j with
  | nil => cases h
  | cons a l ih =>
    intro i hi
    have e : emc (a :: l) = emV a ++ emc l := rfl
    rw [e]
    cases j with
    | zero =>
      cases h
      rw [Nat.zero_mul, Nat.zero_add, List.getElem?_append_left (by show i < 4; exact hi)]
    | succ j =>
      have h2 : l[j]? = some x := by simpa using h
      have e7 : (emV a).length = 4 := rfl
      rw [List.getElem?_append_right (by rw [e7]; omega), e7, show (j + 1) * 4 + i - 4 = j * 4 + i from by omega]
      exact ih j h2 i hi
theorem em_one (e : Em) : ∀ u ∈ emV e, u.oneCell' = true := fun u hu => by
  simp only [emV, List.mem_cons, List.not_mem_nil, or_false] at hu
  rcases hu with rfl | rfl | rfl | rfl <;> rfl
/-- Four cells, from a place on. -/
structure EB (W : World) (g o : Nat) (e : Em) : Prop where
  c0 : W.cell? ⟨g, o, none⟩ = some (.bool e.nu)
  c1 : W.cell? ⟨g, o + 1, none⟩ = some (.bool e.cf)
  c2 : W.cell? ⟨g, o + 2, none⟩ = some (.int .i64 e.le)
  c3 : W.cell? ⟨g, o + 3, none⟩ = some (.int .i64 e.mo)
theorem EB.same {W W' : World} {g o : Nat} {e : Em} (h : EB W g o e) (hb : W'.heap[g]? = W.heap[g]?) : EB W' g o e := by
  have key : ∀ j, W'.cell? ⟨g, j, none⟩ = W.cell? ⟨g, j, none⟩ := fun j => World.cell?_of_block (a := ⟨g, j, none⟩) hb
  exact ⟨(key _).trans h.c0, (key _).trans h.c1, (key _).trans h.c2, (key _).trans h.c3⟩
/-- A box of its own. -/
structure EX (W : World) (b : Nat) (e : Em) : Prop where
  heap : W.heap[b]? = some (.cells #[.bool e.nu, .bool e.cf, .int .i64 e.le, .int .i64 e.mo] 74 (0, 0))
theorem EX.lt {W : World} {b : Nat} {e : Em} (h : EX W b e) : b < W.heap.size := (Array.getElem?_eq_some_iff.1 h.heap).1
theorem EX.same {W W' : World} {b : Nat} {e : Em} (h : EX W b e) (hb : W'.heap[b]? = W.heap[b]?) : EX W' b e := ⟨hb.trans h.heap⟩
theorem EX.below {W W' : World} {b : Nat} {e : Em} (h : EX W b e) (hb : Below W.heap.size W W') : EX W' b e := h.same (hb.block b h.lt)
theorem EX.eb {W : World} {b : Nat} {e : Em} (h : EX W b e) : EB W b 0 e := by
  have key : ∀ (j : Nat) u, (#[Value.bool e.nu, .bool e.cf, .int .i64 e.le, .int .i64 e.mo] : Array Value)[j]? = some u → W.cell? ⟨b, j, none⟩ = some u := fun j u hu => by
    rw [cell_of_row W b j _ 74 (0, 0) h.heap]
    exact hu
  exact ⟨key 0 _ rfl, key 1 _ rfl, key 2 _ rfl, key 3 _ rfl⟩
theorem EX.fz {W : World} {b : Nat} {e : Em} (h : EX W b e) (j : Nat) : W.frozen? ⟨b, j, none⟩ = false := frozen_of_row W b j _ 74 h.heap
theorem EX.new (W : World) (e : Em) : EX (W.alloc (emO e)) W.heap.size e := ⟨heap_alloc_new W _⟩
theorem EX.set0 {W : World} {b : Nat} {e : Em} (h : EX W b e) (v : Bool) : EX (W.setCell ⟨b, 0, none⟩ (.bool v)) b { e with nu := v } := ⟨by rw [heap_setCell_same W b 0 _ 74 _ h.heap]; rfl⟩
theorem EX.set1 {W : World} {b : Nat} {e : Em} (h : EX W b e) (v : Bool) : EX (W.setCell ⟨b, 1, none⟩ (.bool v)) b { e with cf := v } := ⟨by rw [heap_setCell_same W b 1 _ 74 _ h.heap]; rfl⟩
theorem EX.set2 {W : World} {b : Nat} {e : Em} (h : EX W b e) (v : Int) : EX (W.setCell ⟨b, 2, none⟩ (.int .i64 v)) b { e with le := v } := ⟨by rw [heap_setCell_same W b 2 _ 74 _ h.heap]; rfl⟩
theorem EX.set3 {W : World} {b : Nat} {e : Em} (h : EX W b e) (v : Int) : EX (W.setCell ⟨b, 3, none⟩ (.int .i64 v)) b { e with mo := v } := ⟨by rw [heap_setCell_same W b 3 _ 74 _ h.heap]; rfl⟩
theorem EX.all {W : World} {b : Nat} {e : Em} (h : EX W b e) (f : Em) : EX ((((W.setCell ⟨b, 0, none⟩ (.bool f.nu)).setCell ⟨b, 1, none⟩ (.bool f.cf)).setCell ⟨b, 2, none⟩ (.int .i64 f.le)).setCell ⟨b, 3, none⟩ (.int .i64 f.mo)) b f := (((h.set0 _).set1 _).set2 _).set3 _
/-- The four cells of a box written at once. -/
abbrev st4 (W : World) (b : Nat) (f : Em) : World := (((W.setCell ⟨b, 0, none⟩ (.bool f.nu)).setCell ⟨b, 1, none⟩ (.bool f.cf)).setCell ⟨b, 2, none⟩ (.int .i64 f.le)).setCell ⟨b, 3, none⟩ (.int .i64 f.mo)
theorem st4_below {w W : World} {b : Nat} (h : Below w.heap.size w W) (hb : w.heap.size ≤ b) (f : Em) : Below w.heap.size w (st4 W b f) :=
  (((h.setCell (p := ⟨b, 0, none⟩) hb _).setCell (p := ⟨b, 1, none⟩) hb _).setCell (p := ⟨b, 2, none⟩) hb _).setCell (p := ⟨b, 3, none⟩) hb _
theorem st4_other {W : World} {b j : Nat} (h : j ≠ b) (f : Em) : (st4 W b f).heap[j]? = W.heap[j]? :=
  (((Below.heap_setCell _ _ _ _ h).trans (Below.heap_setCell _ _ _ _ h)).trans (Below.heap_setCell _ _ _ _ h)).trans (Below.heap_setCell _ _ _ _ h)
/-- What a list of them reads. -/
def RdE (W : World) (A : Option Addr) (l : List Em) : Prop := l ≠ [] → ∃ g o, A = some ⟨g, o, none⟩ ∧ g < W.heap.size ∧ ∀ (j : Nat) e, l[j]? = some e → EB W g (o + j * 4) e
theorem RdE.later {W W' : World} {A : Option Addr} {l : List Em} (h : RdE W A l) (hb : Below W.heap.size W W') : RdE W' A l := fun hl => by
  obtain ⟨g, o, e, lt, c⟩ := h hl
  exact ⟨g, o, e, Nat.lt_of_lt_of_le lt hb.size, fun j x hx => (c j x hx).same (hb.block g lt)⟩
theorem own_eb {W : World} {B g n cap : Nat} {l : List Em} {xs : List Value} (h : W.ownsRow B 74 4 (.slice (some ⟨g, 0, none⟩) n cap) n (emc l ++ xs)) : ∀ (j : Nat) e, l[j]? = some e → EB W g (j * 4) e := fun j e hj => by
  have hc := h.cells (g := g) rfl
  have hjl := (List.getElem?_eq_some_iff.1 hj).1
  have key : ∀ i u, i < 4 → (emV e)[i]? = some u → W.cell? ⟨g, j * 4 + i, none⟩ = some u := fun i u hi hu => by
    have := hc (j * 4 + i) u (by rw [List.getElem?_append_left (by rw [emc_len]; omega), emc_get l j e hj i hi]; exact hu)
    rw [Addr.add_lit, Nat.zero_add] at this
    exact this
  exact ⟨key 0 _ (by omega) rfl, key 1 _ (by omega) rfl, key 2 _ (by omega) rfl, key 3 _ (by omega) rfl⟩
theorem own_re {W : World} {B : Nat} {v : Value} {l : List Em} (h : W.ownsRow B 74 4 v l.length (emc l)) : ∃ A c, v = .slice A l.length c ∧ RdE W A l := by
  rcases h.2 with ⟨e1, e2⟩ | ⟨g, cap, cur, e1, h1, h2, _⟩
  · exact ⟨none, 0, by rw [e1, e2], fun q => absurd (List.eq_nil_of_length_eq_zero e2) q⟩
  · refine ⟨_, _, e1, fun _ => ⟨g, 0, rfl, (Array.getElem?_eq_some_iff.1 h2).1, fun j e hj => ?_⟩⟩
    rw [e1] at h
    rw [Nat.zero_add]
    exact own_eb (xs := []) (by rw [List.append_nil]; exact h) j e hj
theorem Tryz.infoE : (Tryz.prog.info? 74).map (fun i => (i.zero, i.size, i.bytes)) = some (some (.agg #[.bool false, .bool false, .int .i64 0, .int .i64 0]), 4, 24) := by kernel_rfl
abbrev zE : Value := .agg #[.bool false, .bool false, .int .i64 0, .int .i64 0]
/-- A result that lies in a box. -/
theorem ret_ex {s : Nat} {fn : Func} {R : Ending → World → Prop} {act : Act} {W : World} {k : Nat} {e : Em} (hF : fn.results = #[.cell s 74]) (hd : act.defers = []) (h6 : act.tmps.getD s undef = .pointer (some ⟨k, 0, none⟩)) (hT : EX W k e) (hR : R (.returned (emG e)) W) : bodyPost Tryz.prog fn R .ret act W := by
  have c0 : W.cell? ⟨k, 0, none⟩ = _ := hT.eb.c0
  have c1 : W.cell? ⟨k, 1, none⟩ = _ := hT.eb.c1
  have c2 : W.cell? ⟨k, 2, none⟩ = _ := hT.eb.c2
  have c3 : W.cell? ⟨k, 3, none⟩ = _ := hT.eb.c3
  refine bodyPost_ret (v := emG e) ?_ hd hR
  simp only [Array.getD_eq_getD_getElem?] at h6
  simp [results, hF, go_sem, h6, c0, c1, c2, c3]
end Go.Proofs.YtbnihflihelimaaGreat.N
