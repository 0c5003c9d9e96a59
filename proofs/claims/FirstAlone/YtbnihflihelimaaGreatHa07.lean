/- DERIVED. Plain mathematics and walks, laid together (7). -/
import Derived.Deep.RegionLaw
import Derived.BigQuiet
import Derived.Test.YtbnihflihelimaaGreatHa06
namespace Go.Proofs.YtbnihflihelimaaGreat.N
open Go.RowKit Go.Maps
open Go.Proofs.YtbnihflihelimaaGreat.T
/-- A call of a function value, bound or with what it captured, as one step of a region that draws its order. -/
theorem step_callf {F : Nat} (hen : ∀ args w, (callFunc F args).run Tryz.prog w = .ok (.enter F args) w) {ops : Array Oper} {o : Oper} {a : Act} {w : World} {K : Act → World → Prop} {Q : Exit → Act → World → Prop} {E : Prop} (hgd : o.guard = none) (f x y : Nat) (T U : TypeId) (ho : o.op = .call { callee := .value (.tmp f), args := #[.tmp x, .tmp y], argTypes := #[T, U] }) (fs cs : Array Value) (hf : a.eval (.tmp f) = .func (.func F) fs cs) (u v : Value) (hx : a.eval (.tmp x) = u) (hy : a.eval (.tmp y) = v)
    (hc : Calls Tryz.prog F (fs ++ #[u, v] ++ cs) w fun e w' => ∃ r, e = .returned r ∧ K (a.put o.dst r) w') :
    if Region.wanted o (yielded ops a.tmps) = true then Oper.wp Tryz.prog o a w K Q else E := by
  have hw : Region.wanted o (yielded ops a.tmps) = true := by simp [Region.wanted, hgd]
  rw [if_pos hw]
  have he : (execOp a.eval o).run Tryz.prog w = .ok (.enter F (fs ++ #[u, v] ++ cs)) w := by
    have hf2 : a.tmps[f]?.getD undef = .func (.func F) fs cs := by simpa [Act.eval] using hf
    have hx2 : a.tmps[x]?.getD undef = u := by simpa [Act.eval] using hx
    have hy2 : a.tmps[y]?.getD undef = v := by simpa [Act.eval] using hy
    unfold execOp
    simp [ho, go_sem, invoke]
    rw [hf2, hx2, hy2]
    simp [hen]
  unfold Oper.wp
  rw [he, Oper.upon_enter]
  refine hc.mono ?_
  rintro e w' ⟨r, rfl, hk⟩
  exact hk
/-- What is known of the parts that belong to no node yet. -/
def emS (E : Nat → Em) (st : List Pt) : List Em := (st.map fun p => E p.2.1).reverse
theorem emS_len (E : Nat → Em) (st : List Pt) : (emS E st).length = st.length := by unfold emS; rw [List.length_reverse, List.length_map]
theorem emS_cons (E : Nat → Em) (p : Pt) (st : List Pt) : emS E (p :: st) = emS E st ++ [E p.2.1] := by unfold emS; rw [List.map_cons, List.reverse_cons]
theorem emS_split (E : Nat → Em) (st : List Pt) (a : Nat) : emS E st = emS E (st.drop a) ++ emS E (st.take a) := by
  unfold emS
  rw [← List.reverse_append, ← List.map_append, List.take_append_drop]
theorem pt_last (L : List Nd) (k : Nat) : (pt L k).2.1 = k := by
  unfold pt mk
  split
  · rfl
  · split
    · split <;> rfl
    · split <;> rfl
/-- What a function that is handed each node keeps to. -/
structure See9 (L : List Nd) (F : Nat) (fs cs : Array Value) (E : Nat → Em) (Bc B : Nat) (J : Nat → (Nat → Prop) → World → Prop) : Prop where
  kept : ∀ k X w w', J k X w → w.heap.size ≤ w'.heap.size → (∀ b, (b < B ∨ X b) → w'.heap[b]? = w.heap[b]?) → J k X w'
  far : ∀ k X w, J k X w → ∀ b, X b → Bc ≤ b ∧ b < w.heap.size
  call : ∀ k X w A c n, J k X w → B ≤ w.heap.size → L[k]? = some n → RdE w A (emS E ((run L k).take (arN n.op))) → (∀ a, A = some a → ¬ X a.block) →
    Calls Tryz.prog F (fs ++ #[ndG n, .slice A (arN n.op) c] ++ cs) w fun e w' => e = .returned (emG (E k)) ∧ ∃ X', J (k + 1) X' w' ∧ Kp X w w' ∧ ∀ b, X' b → X b ∨ w.heap.size ≤ b
structure AtE (L : List Nd) (E : Nat → Em) (J : Nat → (Nat → Prop) → World → Prop) (Bc : Nat) (w wr : World) (k : Nat) (X : Nat → Prop) (v : Value) (st : List Pt) : Prop where
  o : wr.ownsRow (w.heap.size + 1) 74 4 v st.length (emc (emS E st))
  z : EX wr w.heap.size e0
  j : J k X wr
  d : ∀ g, v.ownBlock = some g → ¬ X g
  dz : ¬ X w.heap.size
  b : Below Bc w wr
theorem kp_of_below {X : Nat → Prop} {w w' : World} (h : Below w.heap.size w w') : Kp X w w' := ⟨h.os, h.tape, h.output, h.size, fun b hb _ => h.block b hb⟩
theorem AtE.below {L : List Nd} {E : Nat → Em} {F : Nat} {fs cs : Array Value} {J : Nat → (Nat → Prop) → World → Prop} {Bc B : Nat} {w wr w2 : World} {k : Nat} {X : Nat → Prop} {v : Value} {st : List Pt} (h : AtE L E J Bc w wr k X v st) (hs : See9 L F fs cs E Bc B J) (hB : Bc ≤ w.heap.size) (hB2 : B ≤ w.heap.size) (hb : Below wr.heap.size wr w2) : AtE L E J Bc w w2 k X v st :=
  ⟨T.own_below h.o hb, h.z.below hb, hs.kept k X wr w2 h.j hb.size (fun b hx => hb.block b (by
    rcases hx with q | q
    · exact Nat.lt_of_lt_of_le (Nat.lt_of_lt_of_le q hB2) h.b.size
    · exact (hs.far _ _ _ h.j b q).2)), h.d, h.dz, h.b.trans (hb.mono (Nat.le_trans hB h.b.size))⟩
/-- Behind the call: another state of X, the rest as it was. -/
theorem AtE.told {L : List Nd} {E : Nat → Em} {F : Nat} {fs cs : Array Value} {J : Nat → (Nat → Prop) → World → Prop} {Bc B : Nat} {w wr wA : World} {k : Nat} {X X' : Nat → Prop} {v : Value} {st : List Pt} (h : AtE L E J Bc w wr k X v st) (hs : See9 L F fs cs E Bc B J) (hB : Bc ≤ w.heap.size) (hj : J (k + 1) X' wA) (hk : Kp X wr wA) (hx : ∀ b, X' b → X b ∨ wr.heap.size ≤ b) : AtE L E J Bc w wA (k + 1) X' v st := by
  refine ⟨own_kp h.o hk h.d, h.z.same (hk.block _ h.z.lt h.dz), hj, fun g hg q => ?_, fun q => ?_, ?_⟩
  · rcases hx g q with q | q
    · exact h.d g hg q
    · have := (h.o.lt g hg).2
      omega
  · rcases hx _ q with q | q
    · exact h.dz q
    · have := h.z.lt
      omega
  · exact ⟨hk.os.trans h.b.os, hk.tape.trans h.b.tape, hk.output.trans h.b.output, Nat.le_trans h.b.size hk.size, fun b hb => (hk.block b (Nat.lt_of_lt_of_le hb (Nat.le_trans hB h.b.size)) (fun q => by have := (hs.far _ _ _ h.j b q).1; omega)).trans (h.b.block b hb)⟩
/-- Four cells of a box of its own are written. -/
theorem AtE.put {L : List Nd} {E : Nat → Em} {F : Nat} {fs cs : Array Value} {J : Nat → (Nat → Prop) → World → Prop} {Bc B : Nat} {w wr : World} {k kk : Nat} {X : Nat → Prop} {v : Value} {st : List Pt} (h : AtE L E J Bc w wr k X v st) (hs : See9 L F fs cs E Bc B J) (hB : Bc ≤ w.heap.size) (hB2 : B ≤ w.heap.size) (h1 : w.heap.size < kk) (hX : ¬ X kk) (hv : ∀ g, v.ownBlock = some g → g ≠ kk) (f : Em) : AtE L E J Bc w (st4 wr kk f) k X v st := by
  have key : ∀ j, j ≠ kk → (st4 wr kk f).heap[j]? = wr.heap[j]? := fun j hj => st4_other hj f
  have sz : (st4 wr kk f).heap.size = wr.heap.size := by unfold st4; rw [World.size_setCell, World.size_setCell, World.size_setCell, World.size_setCell]
  refine ⟨own_same h.o fun g hg => key g (hv g hg), h.z.same (key _ (by omega)), hs.kept k X wr _ h.j (by rw [sz]; exact Nat.le_refl _) (fun b hx => key b (fun e => ?_)), h.d, h.dz, ?_⟩
  · subst e
    rcases hx with q | q
    · omega
    · exact hX q
  · exact (((h.b.setCell (p := ⟨kk, 0, none⟩) (by show Bc ≤ kk; omega) _).setCell (p := ⟨kk, 1, none⟩) (by show Bc ≤ kk; omega) _).setCell (p := ⟨kk, 2, none⟩) (by show Bc ≤ kk; omega) _).setCell (p := ⟨kk, 3, none⟩) (by show Bc ≤ kk; omega) _
end Go.Proofs.YtbnihflihelimaaGreat.N

namespace Go.Proofs.YtbnihflihelimaaGreat.N
open Go.RowKit Go.Maps
open Go.Proofs.YtbnihflihelimaaGreat.T
theorem AtE.push {L : List Nd} {E : Nat → Em} {F : Nat} {fs cs : Array Value} {J : Nat → (Nat → Prop) → World → Prop} {Bc B : Nat} {w w5 w6 : World} {k : Nat} {X : Nat → Prop} {v v' : Value} {st st2 : List Pt} {ob : Obj} {row : Option Nat} (h : AtE L E J Bc w w5 k X v st) (hs : See9 L F fs cs E Bc B J) (hB : Bc ≤ w.heap.size) (hB2 : B ≤ w.heap.size) (hg : (w5.alloc ob).grownBy w6 row) (hrow : ∀ b, row = some b → v.ownBlock = some b) (ho : w6.ownsRow (w.heap.size + 1) 74 4 v' st2.length (emc (emS E st2))) (hat : ∀ g, v'.ownBlock = some g → v.ownBlock = some g ∨ w5.heap.size ≤ g) : AtE L E J Bc w w6 k X v' st2 := by
  have key : ∀ b, b < w5.heap.size → (∀ q, v.ownBlock = some q → q ≠ b) → w6.heap[b]? = w5.heap[b]? := fun b hb hq => (hg.block b (by rw [World.size_alloc]; omega) (fun e => hq b (hrow b e.symm) rfl)).trans ((below_box w5 ob).block b hb)
  have hlow : ∀ q, v.ownBlock = some q → w.heap.size + 1 ≤ q := fun q hq => (h.o.lt q hq).1
  have hsz : w5.heap.size ≤ w6.heap.size := Nat.le_trans (by rw [World.size_alloc]; omega) hg.size
  have hz := h.z.lt
  refine ⟨ho, h.z.same (key _ hz (fun q hq => by have := hlow q hq; omega)), hs.kept k X w5 w6 h.j hsz (fun b hb => ?_), fun g hgg hX => ?_, h.dz, ?_⟩
  · rcases hb with q | q
    · exact key b (by omega) (fun p hp => by have := hlow p hp; omega)
    · exact key b (hs.far _ _ _ h.j b q).2 (fun p hp e => h.d p hp (by rw [e]; exact q))
  · rcases hat g hgg with q | q
    · exact h.d g q hX
    · have := (hs.far _ _ _ h.j g hX).2
      omega
  · have b1 := h.b.alloc (Nat.le_trans hB h.b.size) ob
    refine b1.grown hg (Nat.le_trans hB b1.size) (fun q e => ?_)
    have := hlow q (hrow q e)
    omega
theorem hid_of {p : Prop} (h : p) : Hid p := h
theorem grown_drew {W W' : World} {row : Option Nat} (h : W.drew.grownBy W' row) : W.grownBy W' row := ⟨h.os, h.tape, h.output, h.size, h.block⟩
theorem own_front {W : World} {B m r cA : Nat} {A : Option Addr} {l a b : List Em} (h : W.ownsRow B 74 4 (.slice A m cA) m (emc l)) (hl : l = a ++ b) (ha : a.length = r) (hm : r ≤ m) (hA : A = none ∧ m = 0 ∧ cA = 0 ∨ ∃ g, A = some ⟨g, 0, none⟩) : W.ownsRow B 74 4 (.slice A r cA) r (emc a) := by
  rcases hA with ⟨rfl, h2, h3⟩ | ⟨g, rfl⟩
  · have e : r = 0 := by omega
    subst e
    have ea : a = [] := List.eq_nil_of_length_eq_zero ha
    rw [ea, h3]
    exact World.ownsRow_nil _ _ _ _
  · have h2 := T.own_cut h hm
    have e : (emc l).take (r * 4) = emc a := by
      rw [hl, emc_app, List.take_append_of_le_length (by rw [emc_len, ha]; exact Nat.le_refl _)]
      exact List.take_of_length_le (by rw [emc_len, ha]; exact Nat.le_refl _)
    rw [e] at h2
    exact h2
theorem em_read {W : World} {B g n cap : Nat} {l : List Em} (h : W.ownsRow B 74 4 (.slice (some ⟨g, 0, none⟩) n cap) n (emc l)) (a b : List Em) (hl : l = a ++ b) (_hb : b ≠ []) : RdE W (some ⟨g, a.length * 4, none⟩) b := fun _ => ⟨g, a.length * 4, rfl, (h.lt g rfl).2, fun j e hj => by
  have h2 := own_eb (xs := []) (by rw [List.append_nil]; exact h) (a.length + j) e (by rw [hl, List.getElem?_append_right (by omega), Nat.add_sub_cancel_left]; exact hj)
  rw [Nat.add_mul] at h2
  exact h2⟩
set_option maxRecDepth 100000 in
set_option maxHeartbeats 32000000 in
theorem through9_any (L : List Nd) (F : Nat) (fs cs : Array Value) (E : Nat → Em) (J : Nat → (Nat → Prop) → World → Prop) (Ap : Option Addr) (cp Bc : Nat) (hrt : Rt L) (w : World) (hB : Bc ≤ w.heap.size) (hp : RdN w Ap L) (hpb : ∀ a, Ap = some a → a.block < Bc) (hen : ∀ args w, (callFunc F args).run Tryz.prog w = .ok (.enter F args) w) (hs : See9 L F fs cs E Bc w.heap.size J) (X0 : Nat → Prop) (h0 : J 0 X0 w) (hX0 : ∀ b, X0 b → b < w.heap.size) :
    Calls Tryz.prog 104 #[.slice Ap L.length cp, .func (.func F) fs cs] w fun e w' => e = .returned (emG (E (L.length - 1))) ∧ Below Bc w w' ∧ ∃ X, J L.length X w' := by
  have hlen : L.length ≤ 2048 := by have := hrt.len; omega
  have hne : L ≠ [] := by rintro rfl; have := hrt.one; simp [run] at this
  obtain ⟨gp, op, rfl, lp, cl⟩ := hp hne
  have hgb := hpb _ rfl
  have HS := (show Hid (See9 L F fs cs E Bc w.heap.size J) from hs)
  have HB := (show Hid (Bc ≤ w.heap.size) from hB)
  obtain ⟨w1, hw1⟩ : ∃ w1, w1 = w.alloc (.cells #[.bool false, .bool false, .int .i64 0, .int .i64 0] 74) := ⟨_, rfl⟩
  have HE1 := (show Hid (w.alloc (.cells #[.bool false, .bool false, .int .i64 0, .int .i64 0] 74) = w1) from hw1.symm)
  have HA := (show Hid (AtE L E J Bc w w1 0 X0 (.slice none 0 0) []) from by
    have hb : Below w.heap.size w w1 := by rw [hw1]; exact below_box _ _
    refine ⟨World.ownsRow_nil _ _ _ _, by rw [hw1]; exact EX.new w e0, hs.kept 0 X0 w w1 h0 hb.size (fun b q => hb.block b ?_), (fun g q => by simp [Value.ownBlock] at q), (fun q => by have := hX0 _ q; omega), hb.mono hB⟩
    rcases q with q | q
    · exact q
    · exact hX0 b q)
  have HG := (show Hid (∀ k, k < L.length → ∃ n, L[k]? = some n ∧ alE n = 0 ∧ arN n.op ≤ (run L k).length) from fun k hk => by
    have e : L[k]? = some L[k] := List.getElem?_eq_getElem hk
    have h := er_ok e (hrt.each k hk)
    exact ⟨_, e, h.al, h.ar⟩)
  have HOne := (show Hid ((run L L.length).length = 1) from hrt.one)
  have HCl := (show Hid (NdL w gp op L) from cl)
  have HPos := (show Hid (0 < L.length) from List.length_pos_iff.2 hne)
  clear hs h0 hX0 hp hpb hne cl hrt hw1
  obtain ⟨i0, hinf, hz0, hz1, hz2⟩ := info_parts Tryz.infoE
  go_enter Tryz.func104, Tryz.ntmps104
  go_wp2_with (rw [HE1.out])
  clear HE1
  go_loopw [5, 12] (fun v t wr => ∃ (k : Nat) (X : Nat → Prop), k ≤ L.length ∧ t = .int .i64 (k : Int) ∧ Hid (AtE L E J Bc w wr k X v (run L k))) (fun _ t _ => L.length - (intOf t).toNat)
  case atStart => exact ⟨0, X0, Nat.zero_le _, by go_num, HA⟩
  case round =>
    obtain ⟨k, X, hk, rfl, HW⟩ := hrel
    clear HA
    by_cases hlt : k < L.length
    · obtain ⟨n, hn, hal, har⟩ := HG.out k hlt
      have HNn := (show Hid (L[k]? = some n) from hn)
      have HAr : Hid (∀ w, Calls Tryz.prog 43 #[.int .i64 n.op] w fun e w' => e = .returned (.int .i64 ((arN n.op : Nat) : Int)) ∧ w' = w) := fun w => by rw [arN_of hal]; exact arity_any n.op w
      obtain ⟨c0, c1, c2, c3, c4, c5, c6⟩ := (HCl.out.same (HW.out.b.block gp hgb)) k n hn
      have z0 : (0 : Int) ≤ (k : Int) := by omega
      have z1 : (k : Int) < (L.length : Int) := by omega
      obtain ⟨A, cA, hv, hAo⟩ : ∃ A c, u5 = .slice A (run L k).length c ∧ (A = none ∧ (run L k).length = 0 ∧ c = 0 ∨ ∃ g, A = some ⟨g, 0, none⟩ ∧ g < wr.heap.size ∧ (run L k).length ≤ c) := by
        rcases HW.out.o.2 with ⟨q1, q2⟩ | ⟨g, cap, cur, q1, q2, q3, q4, _⟩
        · exact ⟨none, 0, by rw [q1, q2], .inl ⟨rfl, q2, rfl⟩⟩
        · exact ⟨_, cap, q1, .inr ⟨g, rfl, (Array.getElem?_eq_some_iff.1 q3).1, q4⟩⟩
      subst hv
      obtain ⟨w2, hw2⟩ : ∃ w2, w2 = wr.alloc (ndO n) := ⟨_, rfl⟩
      have HE2 := (show Hid (wr.alloc (.cells #[.int .i64 n.op, .int .i64 n.nn, .string n.tx, .int .u64 n.s0, .int .u64 n.s1, .int .u64 n.s2, .int .u64 n.s3] 70) = w2) from hw2.symm)
      have HN2 := (show Hid (NX w2 wr.heap.size n) from by rw [hw2]; exact ⟨heap_alloc_new wr _⟩)
      have hb2 : Below wr.heap.size wr w2 := by rw [hw2]; exact below_box _ _
      have HW2 := (show Hid (AtE L E J Bc w w2 k X (.slice A (run L k).length cA) (run L k)) from HW.out.below HS.out HB.out (Nat.le_refl _) hb2)
      have HSz := (show Hid (w2.heap.size = wr.heap.size + 1 ∧ w.heap.size < wr.heap.size) from ⟨by rw [hw2, World.size_alloc], HW.out.z.lt⟩)
      have b0 := HN2.out.nb.c0
      have hml : (run L k).length ≤ 2048 := by have := run_len L k; omega
      have HAo := (show Hid _ from hAo)
      obtain ⟨r, hr⟩ : ∃ r, r + arN n.op = (run L k).length := ⟨(run L k).length - arN n.op, by omega⟩
      have HXlt := (show Hid (∀ b, X b → b < wr.heap.size) from fun b hb => (HS.out.far _ _ _ HW.out.j b hb).2)
      clear hn hal har hAo hw2 hb2 HW HG
      obtain ⟨m, hm⟩ : ∃ m, m = (run L k).length := ⟨_, rfl⟩
      have HM := (show Hid (m = (run L k).length) from hm)
      rw [← hm] at hr hml ⊢
      have hsub : (m : Int) - (arN n.op : Int) = (r : Int) := by omega
      have HAa := (show Hid (arN n.op ≤ 2 ∧ r + arN n.op = m) from ⟨arN_le _, hr⟩)
      have hmr : m - r = arN n.op := by omega
      have zr : (r : Int) ≤ (m : Int) := by omega
      have zr0 : (0 : Int) ≤ (r : Int) := by omega
      have zc : (m : Int) ≤ (cA : Int) := by
        rcases HAo.out with ⟨_, q2, q3⟩ | ⟨g, _, _, q3⟩
        · omega
        · omega
      obtain ⟨A2, hA2, hA2r, hA2b⟩ : ∃ A2, (if cA = r then A else Option.map (fun x => x.add (r * 4)) A) = A2 ∧ RdE w2 A2 (emS E ((run L k).take (arN n.op))) ∧ ∀ a, A2 = some a → ¬ X a.block := by
        refine ⟨_, rfl, ?_, ?_⟩
        · intro hx0
          have ha0 : 0 < ((run L k).take (arN n.op)).length := by
            rw [← emS_len E]; exact List.length_pos_iff.2 hx0
          rw [List.length_take] at ha0
          rcases HAo.out with ⟨q1, q2, q3⟩ | ⟨g, q1, q2, q3⟩
          · omega
          · have hc : ¬ cA = r := by omega
            rw [if_neg hc, q1]
            have ho := HW2.out.o
            rw [q1] at ho
            have hra : (emS E ((run L k).drop (arN n.op))).length = r := by rw [emS_len, List.length_drop]; omega
            have h := em_read ho _ _ (emS_split E (run L k) (arN n.op)) hx0
            rw [hra] at h
            rw [Option.map_some, Addr.add_lit, Nat.zero_add]
            exact h hx0
        · intro a ha
          rcases HAo.out with ⟨q1, q2, q3⟩ | ⟨g, q1, q2, q3⟩
          · rw [q1] at ha; split at ha <;> cases ha
          · rw [q1] at ha
            have hX := HW2.out.d g (by rw [q1]; rfl)
            split at ha
            · cases ha; exact hX
            · rw [Option.map_some, Addr.add_lit] at ha; cases ha; exact hX
      have HR2 := (show Hid (RdE w2 A2 (emS E ((run L k).take (arN n.op))) ∧ ∀ a, A2 = some a → ¬ X a.block) from ⟨hA2r, hA2b⟩)
      clear hA2r hA2b hr hm
      go_wp2_with (rw [HE2.out])
      refine (HAr.out _).mono ?_
      rintro e w3 ⟨rfl, rfl⟩
      clear HAr c0 c1 c2 c3 c4 c5 c6 b0 HE2
      have HE := (show Hid (E k = E k) from rfl)
      obtain ⟨ek, hek⟩ : ∃ ek, ek = E k := ⟨_, rfl⟩
      have HEk := (show Hid (ek = E k) from hek)
      have HW3 := (show Hid (AtE L E J Bc w w3 k X (.slice A m cA) (run L k)) from by rw [HM.out]; exact HW2.out)
      have hD : Below w3.heap.size w3 w3.drew := (Below.refl _ _).drew
      obtain ⟨wz, hwz⟩ : ∃ wz, wz = (w3.alloc (.cells #[.bool false, .bool false, .int .i64 0, .int .i64 0] 74)).drew := ⟨_, rfl⟩
      have hZ : Below w3.heap.size w3 wz := by rw [hwz]; exact (below_box w3 _).drew
      have hZs : wz.heap.size = w3.heap.size + 1 := by rw [hwz]; exact World.size_alloc w3 (.cells #[.bool false, .bool false, .int .i64 0, .int .i64 0] 74)
      have HXz := (show Hid (EX wz w3.heap.size e0) from by rw [hwz]; exact (EX.new w3 e0).below (Below.refl _ _).drew)
      have HC1 := (show Hid (∀ _ : Unit, Calls Tryz.prog F (fs ++ #[ndG n, .slice A2 (arN n.op) (cA - r)] ++ cs) w3.drew fun e w' => e = .returned (emG ek) ∧ ∃ X', AtE L E J Bc w w' (k + 1) X' (.slice A m cA) (run L k)) from fun _ => by
        have hat := HW3.out.below HS.out HB.out (Nat.le_refl _) hD
        rw [hek]
        refine (HS.out.call k X w3.drew A2 (cA - r) n hat.j hat.b.size HNn.out (HR2.out.1.later hD) HR2.out.2).mono ?_
        rintro e w' ⟨h1, X', h2, h3, h4⟩
        exact ⟨h1, X', hat.told HS.out HB.out h2 h3 h4⟩)
      have HC2 := (show Hid (∀ _ : Unit, Calls Tryz.prog F (fs ++ #[ndG n, .slice A2 (arN n.op) (cA - r)] ++ cs) wz fun e w' => e = .returned (emG ek) ∧ EX w' w3.heap.size e0 ∧ ∃ X', AtE L E J Bc w w' (k + 1) X' (.slice A m cA) (run L k) ∧ ¬ X' w3.heap.size) from fun _ => by
        have hat := HW3.out.below HS.out HB.out (Nat.le_refl _) hZ
        rw [hek]
        refine (HS.out.call k X wz A2 (cA - r) n hat.j hat.b.size HNn.out (HR2.out.1.later hZ) HR2.out.2).mono ?_
        have hns : ¬ X w3.heap.size := fun q => by
          have := HXlt.out _ q
          have := HSz.out.1
          omega
        rintro e w' ⟨h1, X', h2, h3, h4⟩
        refine ⟨h1, HXz.out.same (h3.block _ HXz.out.lt hns), X', hat.told HS.out HB.out h2 h3 h4, fun q => ?_⟩
        rcases h4 _ q with q | q
        · exact hns q
        · omega)
      have HAl := (show Hid (∀ w4 : World, (∃ X', AtE L E J Bc w w4 (k + 1) X' (.slice A m cA) (run L k)) → Hid (EX (w4.alloc (emO ek)) w4.heap.size ek ∧ ∃ X', AtE L E J Bc w (w4.alloc (emO ek)) (k + 1) X' (.slice A m cA) (run L k))) from fun w4 h => by
        obtain ⟨X', h⟩ := h
        exact ⟨EX.new w4 ek, X', h.below HS.out HB.out (Nat.le_refl _) (below_box _ _)⟩)
      have HSe := (show Hid (∀ w4 : World, EX w4 w3.heap.size e0 → (∃ X', AtE L E J Bc w w4 (k + 1) X' (.slice A m cA) (run L k) ∧ ¬ X' w3.heap.size) → Hid (EX (st4 w4 w3.heap.size ek) w3.heap.size ek ∧ ∃ X', AtE L E J Bc w (st4 w4 w3.heap.size ek) (k + 1) X' (.slice A m cA) (run L k))) from fun w4 hx h => by
        obtain ⟨X', h, hn⟩ := h
        refine ⟨hx.all ek, X', h.put HS.out HB.out (Nat.le_refl _) (by have := HSz.out; omega) hn (fun g hg e => ?_) ek⟩
        have := (HW3.out.o.lt g hg).2
        omega)
      have d0 : w3.drew.cell? ⟨wr.heap.size, 0, none⟩ = some (.int .i64 n.op) := (nx_below HN2.out hD).nb.c0
      have d1 : w3.drew.cell? ⟨wr.heap.size, 1, none⟩ = some (.int .i64 n.nn) := (nx_below HN2.out hD).nb.c1
      have d2 : w3.drew.cell? ⟨wr.heap.size, 2, none⟩ = some (.string n.tx) := (nx_below HN2.out hD).nb.c2
      have d3 : w3.drew.cell? ⟨wr.heap.size, 3, none⟩ = some (.int .u64 n.s0) := (nx_below HN2.out hD).nb.c3
      have d4 : w3.drew.cell? ⟨wr.heap.size, 4, none⟩ = some (.int .u64 n.s1) := (nx_below HN2.out hD).nb.c4
      have d5 : w3.drew.cell? ⟨wr.heap.size, 5, none⟩ = some (.int .u64 n.s2) := (nx_below HN2.out hD).nb.c5
      have d6 : w3.drew.cell? ⟨wr.heap.size, 6, none⟩ = some (.int .u64 n.s3) := (nx_below HN2.out hD).nb.c6
      have e0' : wz.cell? ⟨wr.heap.size, 0, none⟩ = some (.int .i64 n.op) := (nx_below HN2.out hZ).nb.c0
      have e1' : wz.cell? ⟨wr.heap.size, 1, none⟩ = some (.int .i64 n.nn) := (nx_below HN2.out hZ).nb.c1
      have e2' : wz.cell? ⟨wr.heap.size, 2, none⟩ = some (.string n.tx) := (nx_below HN2.out hZ).nb.c2
      have e3' : wz.cell? ⟨wr.heap.size, 3, none⟩ = some (.int .u64 n.s0) := (nx_below HN2.out hZ).nb.c3
      have e4' : wz.cell? ⟨wr.heap.size, 4, none⟩ = some (.int .u64 n.s1) := (nx_below HN2.out hZ).nb.c4
      have e5' : wz.cell? ⟨wr.heap.size, 5, none⟩ = some (.int .u64 n.s2) := (nx_below HN2.out hZ).nb.c5
      have e6' : wz.cell? ⟨wr.heap.size, 6, none⟩ = some (.int .u64 n.s3) := (nx_below HN2.out hZ).nb.c6
      obtain ⟨en, ec, el, em⟩ := ek
      simp only [emG] at HC1 HC2
      simp only [st4, emO] at HAl HSe
      rw [hwz] at e0' e1' e2' e3' e4' e5' e6' HC2
      clear hek hD hZ hZs hwz HXz HW2 HR2 HE
      go_wp2_with fail
      go_region_law (first
        | (refine step_callf hen rfl _ _ _ _ _ (by rfl) fs cs (by rfl) (ndG n) (.slice A2 (arN n.op) (cA - r)) (by rfl) (by rfl) ?_; with_reducible refine (HC1.out ()).mono ?_; rintro e w4 ⟨rfl, h4⟩; refine ⟨_, rfl, ?_⟩; have HF := HAl.out w4 h4)
        | (refine step_callf hen rfl _ _ _ _ _ (by rfl) fs cs (by rfl) (ndG n) (.slice A2 (arN n.op) (cA - r)) (by rfl) (by rfl) ?_; with_reducible refine (HC2.out ()).mono ?_; rintro e w4 ⟨rfl, hx4, h4⟩; refine ⟨_, rfl, ?_⟩; have g0 := hx4.fz 0; have g1 := hx4.fz 1; have g2 := hx4.fz 2; have g3 := hx4.fz 3; have y0 := hx4.eb.c0; have y1 := hx4.eb.c1; have y2 := hx4.eb.c2; have y3 := hx4.eb.c3; have HF := HSe.out w4 hx4 h4))
      all_goals
        first
          | (clear g0 g1 g2 g3 y0 y1 y2 y3; generalize (((w4.setCell ⟨w3.heap.size, 0, none⟩ (.bool en)).setCell ⟨w3.heap.size, 1, none⟩ (.bool ec)).setCell ⟨w3.heap.size, 2, none⟩ (.int .i64 el)).setCell ⟨w3.heap.size, 3, none⟩ (.int .i64 em) = w5 at HF ⊢; generalize w3.heap.size = kk at HF ⊢; clear h4 hx4)
          | (generalize w4.alloc (.cells #[.bool en, .bool ec, .int .i64 el, .int .i64 em] 74) = w5 at HF ⊢; generalize w4.heap.size = kk at HF ⊢; clear h4)
        clear HC1 HC2 HAl HSe d0 d1 d2 d3 d4 d5 d6 e0' e1' e2' e3' e4' e5' e6'
        obtain ⟨hxk, X', hat5⟩ := HF.out
        have HA5 := (show Hid (AtE L E J Bc w w5 (k + 1) X' (.slice A m cA) (run L k)) from hat5)
        have HO5 := (show Hid (w5.ownsRow (w.heap.size + 1) 74 4 (.slice A r cA) r (emc (emS E ((run L k).drop (arN n.op))))) from own_front (m := m) (by have h := hat5.o; rw [← HM.out] at h; exact h) (emS_split E (run L k) (arN n.op)) (by rw [emS_len, List.length_drop, ← HM.out]; have := HAa.out; omega) (by have := HAa.out; omega) (by
          rcases HAo.out with ⟨q1, q2, q3⟩ | ⟨g, q1, _, _⟩
          · exact .inl ⟨q1, by rw [HM.out]; exact q2, q3⟩
          · exact .inr ⟨g, q1⟩))
        have x0 : w5.cell? ⟨kk, 0, none⟩ = some (.bool en) := hxk.eb.c0
        have x1 : w5.cell? ⟨kk, 1, none⟩ = some (.bool ec) := hxk.eb.c1
        have x2 : w5.cell? ⟨kk, 2, none⟩ = some (.int .i64 el) := hxk.eb.c2
        have x3 : w5.cell? ⟨kk, 3, none⟩ = some (.int .i64 em) := hxk.eb.c3
        have zc2 : (r : Int) ≤ (cA : Int) := by omega
        have HSw := (show Hid (w.heap.size + 1 ≤ w5.heap.size) from hat5.z.lt)
        have HPs := (show Hid (∀ (w6 : World) (g3 cap3 : Nat), w6.ownsRow (w.heap.size + 1) 74 4 (.slice (some ⟨g3, 0, none⟩) (r + 1) cap3) (r + 1) (emc (emS E ((run L k).drop (arN n.op))) ++ emV ⟨en, ec, el, em⟩) → ((w5.alloc (.cells #[.bool en, .bool ec, .int .i64 el, .int .i64 em] 74)).drew).grownBy w6 (Value.slice A r cA).ownBlock → ((Value.slice A r cA).ownBlock = some g3 ∨ g3 = w5.heap.size + 1) → AtE L E J Bc w w6 (k + 1) X' (.slice (some ⟨g3, 0, none⟩) (r + 1) cap3) (run L (k + 1))) from fun w6 g3 cap3 h1 h2 h3 => by
          have hl : (run L (k + 1)).length = r + 1 := by
            rw [run_succ, List.length_cons, List.length_drop, op_of HNn.out, ← HM.out]
            have := HAa.out
            omega
          refine HA5.out.push HS.out HB.out (Nat.le_refl _) (grown_drew h2) (fun b hb => ?_) ?_ (fun g hg => ?_)
          · rcases HAo.out with ⟨q1, _, _⟩ | ⟨g, q1, _, _⟩
            · rw [q1] at hb; cases hb
            · rw [q1] at hb ⊢; exact hb
          · rw [hl, run_succ, emS_cons, pt_last, op_of HNn.out, emc_app, emc_one, ← HEk.out]
            exact h1
          · have e : g3 = g := by injection hg
            subst e
            rcases h3 with q | q
            · refine .inl ?_
              rcases HAo.out with ⟨q1, _, _⟩ | ⟨g, q1, _, _⟩
              · rw [q1] at q; cases q
              · rw [q1] at q ⊢; exact q
            · exact .inr (by omega))
        clear HF hxk hat5
        go_wp2_with fail
        go_region_law (refine step_append_lies _ (by rfl) _ _ _ (by rfl) (w.heap.size + 1) 74 i0 zE 4 24 Tryz.underlying53 hinf hz0 hz1 hz2 rfl (by omega) _ _ (emc (emS E ((run L k).drop (arN n.op)))) (by rfl) (T.own_drew (HO5.out.alloc _)) ⟨w5.heap.size, 0, none⟩ 1 1 (emV ⟨en, ec, el, em⟩) (by rfl) (by rfl) (World.news_of_block (cs := #[.bool en, .bool ec, .int .i64 el, .int .i64 em]) (t := 74) (fr := (0, 0)) (heap_alloc_new w5 _)) (em_one _) (by omega) (by unfold maxLen; omega) (by omega) (by show w.heap.size + 1 ≤ (w5.alloc _).heap.size; rw [World.size_alloc]; exact Nat.le_succ_of_le HSw.out) (w5.heap.size + 1) (by simp) ?_; intro g3 cap3 w6 hown hgrow hat hltg; have HP6 := hid_of (HPs.out w6 g3 cap3 hown hgrow hat))
        all_goals
          clear hown hgrow hat hltg HPs HA5 HO5 x0 x1 x2 x3 HSw
          go_wp2_with fail
          go_roundw
          case rel => exact ⟨k + 1, X', by omega, by go_num, HP6⟩
          case measure => simp [intOf]; omega
    · obtain rfl : k = L.length := by omega
      obtain ⟨g, c, e, e0, hE⟩ : ∃ g c e, u5 = .slice (some ⟨g, 0, none⟩) 1 c ∧ EB wr g 0 e ∧ Hid (e = E (L.length - 1)) := by
        have ho := HW.out.o
        have h1 := HOne.out
        have hp := HPos.out
        obtain ⟨j, hj⟩ : ∃ j, L.length = j + 1 := ⟨L.length - 1, by omega⟩
        have hr : run L L.length = [pt L j] := by
          rw [hj, run_succ] at h1 ⊢
          rw [List.length_cons] at h1
          rw [List.eq_nil_of_length_eq_zero (by omega : ((run L j).drop (arN (T.opAt L j))).length = 0)]
        rw [hr] at ho
        obtain ⟨g, c, e, _⟩ := ho.form (by show 0 < 1; omega)
        refine ⟨g, c, E (pt L j).2.1, e, ?_, ?_⟩
        · rw [e] at ho
          have h := own_eb (l := emS E [pt L j]) (xs := []) (by rw [List.append_nil]; exact ho) 0 (E (pt L j).2.1) rfl
          rw [Nat.zero_mul] at h
          exact h
        · show E (pt L j).2.1 = _
          rw [pt_last, hj]
          rfl
      subst e0
      have HEe := (show Hid (EX (st4 wr w.heap.size e) w.heap.size e ∧ Below Bc w (st4 wr w.heap.size e) ∧ ∃ X, J L.length X (st4 wr w.heap.size e)) from by
        have h := HW.out
        have hb := HB.out
        refine ⟨h.z.all e, (((h.b.setCell (p := ⟨w.heap.size, 0, none⟩) hb _).setCell (p := ⟨w.heap.size, 1, none⟩) hb _).setCell (p := ⟨w.heap.size, 2, none⟩) hb _).setCell (p := ⟨w.heap.size, 3, none⟩) hb _, X, HS.out.kept _ X wr _ h.j (by unfold st4; rw [World.size_setCell, World.size_setCell, World.size_setCell, World.size_setCell]; exact Nat.le_refl _) (fun b q => st4_other (fun e => ?_) _)⟩
        subst e
        rcases q with q | q
        · omega
        · exact h.dz q)
      obtain ⟨x0, x1, x2, x3⟩ := hE.1
      have hE2 := hE.2
      have f0 := HW.out.z.fz 0
      have f1 := HW.out.z.fz 1
      have f2 := HW.out.z.fz 2
      have f3 := HW.out.z.fz 3
      have z0 : wr.cell? ⟨w.heap.size, 0, none⟩ = some (.bool false) := HW.out.z.eb.c0
      have z1 : wr.cell? ⟨w.heap.size, 1, none⟩ = some (.bool false) := HW.out.z.eb.c1
      have z2 : wr.cell? ⟨w.heap.size, 2, none⟩ = some (.int .i64 0) := HW.out.z.eb.c2
      have z3 : wr.cell? ⟨w.heap.size, 3, none⟩ = some (.int .i64 0) := HW.out.z.eb.c3
      obtain ⟨en, ec, el, em⟩ := e
      simp only at x0 x1 x2 x3
      clear hE HW HOne HG HCl HS
      go_wp2_with fail
      refine ret_ex (s := 4) (k := w.heap.size) (by rfl) (by rfl) (by rfl) HEe.out.1 ?_
      exact ⟨by rw [← hE2.out], HEe.out.2⟩
end Go.Proofs.YtbnihflihelimaaGreat.N

namespace Go.Proofs.YtbnihflihelimaaGreat.N
open Go.RowKit Go.Maps
open Go.Proofs.YtbnihflihelimaaGreat.T
/-- The last nodes of a node's parts. -/
def kdR (L : List Nd) (k : Nat) : List Nat := ((run L k).take (arN (T.opAt L k))).reverse.map fun p => p.2.1
theorem kdR_of {L : List Nd} {k : Nat} {n : Nd} (hn : L[k]? = some n) (E : Nat → Em) : emS E ((run L k).take (arN n.op)) = (kdR L k).map E := by
  unfold kdR emS
  rw [op_of hn, List.map_map, List.map_reverse]
  rfl
theorem kds_R {L : List Nd} (h : Rt L) : Kds (kdR L) L := by
  refine ⟨fun k n hn => ?_, fun k j hk hj => ?_⟩
  · have hlt := (List.getElem?_eq_some_iff.1 hn).1
    have ho := (er_ok hn (h.each k hlt)).ar
    unfold kdR
    rw [op_of hn, List.length_map, List.length_reverse, List.length_take]
    omega
  · unfold kdR at hj
    obtain ⟨p, hp, rfl⟩ := List.mem_map.1 hj
    exact (run_bd (Nat.le_of_lt hk) (fun i hi => h.each i (by omega)) p (List.mem_of_mem_take (List.mem_reverse.1 hp))).2.1
/-- What is known of a node of a pattern. -/
def EE (r : ByteArray → Em) (L : List Nd) (j : Nat) : Em := ((emL (kdR L) r L L.length)[j]?).getD e0
theorem emL_pre {kd : Nat → List Nat} {r : ByteArray → Em} {L : List Nd} : ∀ (m k : Nat), k + m ≤ L.length → ∀ j, j < k → (emL kd r L (k + m))[j]? = (emL kd r L k)[j]? := by
  intro m
  induction m with
  | zero => intro k _ j _; rfl
  | succ m ih =>
    intro k hk j hj
    have hn : L[k + m]? = some L[k + m] := List.getElem?_eq_getElem (by omega)
    rw [show k + (m + 1) = (k + m) + 1 from by omega, emL_succ hn, List.getElem?_append_left (by rw [emL_len _ (by omega)]; omega)]
    exact ih k (by omega) j hj
theorem EE_at {r : ByteArray → Em} {L : List Nd} {k j : Nat} (hk : k ≤ L.length) (hj : j < k) : (emL (kdR L) r L k)[j]? = some (EE r L j) := by
  have hl := emL_len (kd := kdR L) (r := r) (L := L) k hk
  have e := emL_pre (kd := kdR L) (r := r) (L := L) (L.length - k) k (by omega) j hj
  rw [show k + (L.length - k) = L.length from by omega] at e
  have e2 : (emL (kdR L) r L k)[j]? = some _ := List.getElem?_eq_getElem (by omega)
  unfold EE
  rw [e, e2]
  rfl
theorem EE_step {r : ByteArray → Em} {L : List Nd} (h : Rt L) {k : Nat} {n : Nd} (hn : L[k]? = some n) : EE r L k = emN n (((emS (EE r L) ((run L k).take (arN n.op)))[0]?).getD e0) (((emS (EE r L) ((run L k).take (arN n.op)))[1]?).getD e0) r := by
  have hlt := (List.getElem?_eq_some_iff.1 hn).1
  have hl := emL_len (kd := kdR L) (r := r) (L := L) k (by omega)
  have e := EE_at (r := r) (L := L) (k := k + 1) (by omega) (Nat.lt_succ_self k)
  rw [emL_succ hn, List.getElem?_append_right (by omega), hl, Nat.sub_self] at e
  have e := Option.some.inj e
  rw [← e, kdR_of hn]
  have key : ∀ i, kE (emL (kdR L) r L k) (kdR L k) i = (((kdR L k).map (EE r L))[i]?).getD e0 := fun i => by
    unfold kE
    rw [List.getElem?_map]
    cases hj : (kdR L k)[i]? with
    | none => rfl
    | some j =>
      have hjk := (kds_R h).lt k j hlt (List.mem_of_getElem? hj)
      show ((emL (kdR L) r L k)[j]?).getD e0 = _
      rw [EE_at (by omega) hjk]
      rfl
  rw [key 0, key 1]
theorem EE_la {r : ByteArray → Em} {L : List Nd} (h0 : 0 < L.length) : EE r L (L.length - 1) = laE (kdR L) r L := by
  have h := la_at (kd := kdR L) (r := r) h0
  rw [EE_at (Nat.le_refl _) (by omega)] at h
  exact Option.some.inj h
theorem al_facts {n : Nd} (hn : alE n = 0) : (1 ≤ n.op ∧ n.op ≤ 23) ∧ (n.op = 14 ∨ n.op = 15 ∨ n.op = 16 → 0 ≤ n.nn ∧ n.nn ≤ 50) := by
  have har : ¬ ar n.op < 0 ∧ fdF n = true := by
    unfold alE at hn
    by_cases h : ar n.op < 0
    · rw [if_pos h] at hn; cases hn
    · rw [if_neg h] at hn
      by_cases q : fdF n = true
      · exact ⟨h, q⟩
      · rw [if_neg q] at hn; cases hn
  obtain ⟨ha, hf⟩ := har
  have hop : 1 ≤ n.op ∧ n.op ≤ 23 := by
    unfold ar at ha
    by_cases h : n.op < 1 ∨ 23 < n.op
    · rw [if_pos h] at ha; exact absurd (by decide) ha
    · omega
  unfold fdF at hf
  rw [Bool.and_eq_true, Bool.and_eq_true] at hf
  obtain ⟨⟨_, hu⟩, _⟩ := hf
  refine ⟨hop, fun h => ?_⟩
  unfold nuF at hu
  rw [if_pos (by omega)] at hu
  simpa using hu
theorem arN_2 {n : Nd} (h : n.op = 7 ∨ n.op = 8) : arN n.op = 2 := by unfold arN ar; rw [if_neg (by omega), if_neg (by omega), if_pos h]; rfl
theorem arN_1 {n : Nd} (h : 1 ≤ n.op ∧ n.op ≤ 23) (h6 : ¬ (n.op ≤ 6 ∨ n.op = 17)) (h7 : ¬ (n.op = 7 ∨ n.op = 8)) : arN n.op = 1 := by unfold arN ar; rw [if_neg (by omega), if_neg h6, if_neg h7]; rfl
/-- The program tells of a node what the document does. -/
theorem node_any {gs : GL} {now : List Em} (nd : Nd) (B : Nat) (Ar A : Option Addr) (cr c : Nat) (ps : List Em) (hal : alE nd = 0) (hs : nd.tx.size ≤ 140737488355328) (hf : nd.op = 6 → ∃ i, fdG gs nd.tx = some i) (hl : ps.length = arN nd.op) (hok : ∀ e ∈ ps, OkE e) (w : World) (hk : KnI w gs B Ar now) (hp : RdE w A ps) : Calls Tryz.prog 106 #[.agg #[.map (some B), .slice Ar now.length cr], ndG nd, .slice A (arN nd.op) c] w fun e w' => e = .returned (emG (emN nd ((ps[0]?).getD e0) ((ps[1]?).getD e0) (lkE gs now))) ∧ Below w.heap.size w w' := by
  obtain ⟨hop, hN⟩ := al_facts hal
  by_cases c1 : nd.op = 1
  · have e : emN nd ((ps[0]?).getD e0) ((ps[1]?).getD e0) (lkE gs now) = nothE := by unfold emN; rw [if_pos (by omega)]; rfl
    rw [e]; exact node_1 nd _ _ A _ c c1 w
  by_cases c17 : nd.op = 17
  · have e : emN nd ((ps[0]?).getD e0) ((ps[1]?).getD e0) (lkE gs now) = nothE := by unfold emN; rw [if_pos (by omega)]; rfl
    rw [e]; exact node_17 nd _ _ A _ c c17 w
  by_cases c2 : nd.op = 2
  · have e : emN nd ((ps[0]?).getD e0) ((ps[1]?).getD e0) (lkE gs now) = ⟨false, true, -1, 0⟩ := by unfold emN; rw [if_neg (by omega), if_neg (by omega), if_pos c2]
    rw [e]; exact node_2 nd _ _ A _ c c2 w
  by_cases c3 : nd.op = 3
  · have e : emN nd ((ps[0]?).getD e0) ((ps[1]?).getD e0) (lkE gs now) = exaE 1 := by unfold emN; rw [if_neg (by omega), if_neg (by omega), if_neg c2, if_pos (by omega)]; rfl
    rw [e]; exact node_3 nd _ _ A _ c c3 w
  by_cases c5 : nd.op = 5
  · have e : emN nd ((ps[0]?).getD e0) ((ps[1]?).getD e0) (lkE gs now) = exaE 1 := by unfold emN; rw [if_neg (by omega), if_neg (by omega), if_neg c2, if_pos (by omega)]; rfl
    rw [e]; exact node_5 nd _ _ A _ c c5 w
  by_cases c4 : nd.op = 4
  · have e : emN nd ((ps[0]?).getD e0) ((ps[1]?).getD e0) (lkE gs now) = exaE (nd.tx.size : Int) := by unfold emN; rw [if_neg (by omega), if_neg (by omega), if_neg c2, if_neg (by omega), if_pos c4]; rfl
    rw [e]; exact node_4 nd _ _ A _ c c4 w
  by_cases c6 : nd.op = 6
  · obtain ⟨i, hi⟩ := hf c6
    have hil : i < now.length := by rw [hk.n]; exact fdG_lt hi
    have he : now[i]? = some now[i] := List.getElem?_eq_getElem hil
    have e : emN nd ((ps[0]?).getD e0) ((ps[1]?).getD e0) (lkE gs now) = now[i] := by
      unfold emN
      rw [if_neg (by omega), if_neg (by omega), if_neg c2, if_neg (by omega), if_neg c4, if_pos c6]
      unfold lkE
      rw [hi]
      show (now[i]?).getD e0 = _
      rw [he]
      rfl
    rw [e]; exact node_6 nd B Ar A cr _ c c6 hs w hk hi he
  by_cases c7 : nd.op = 7
  · have ha := arN_2 (n := nd) (.inl c7)
    rw [ha] at hl ⊢
    obtain ⟨x, y, rfl⟩ : ∃ x y, ps = [x, y] := by
      match ps, hl with
      | [x, y], _ => exact ⟨x, y, rfl⟩
    have e : emN nd (([x, y][0]?).getD e0) (([x, y][1]?).getD e0) (lkE gs now) = seqE x y := by unfold emN; rw [if_neg (by omega), if_neg (by omega), if_neg c2, if_neg (by omega), if_neg c4, if_neg c6, if_pos c7]; rfl
    rw [e]; exact node_7 nd _ _ A _ c c7 (hok x (by simp)) (hok y (by simp)) w hp rfl
  by_cases c8 : nd.op = 8
  · have ha := arN_2 (n := nd) (.inr c8)
    rw [ha] at hl ⊢
    obtain ⟨x, y, rfl⟩ : ∃ x y, ps = [x, y] := by
      match ps, hl with
      | [x, y], _ => exact ⟨x, y, rfl⟩
    have e : emN nd (([x, y][0]?).getD e0) (([x, y][1]?).getD e0) (lkE gs now) = choE x y := by unfold emN; rw [if_neg (by omega), if_neg (by omega), if_neg c2, if_neg (by omega), if_neg c4, if_neg c6, if_neg c7, if_pos c8]; rfl
    rw [e]; exact node_8 nd _ _ A _ c c8 w hp rfl
  have ha := arN_1 hop (by omega) (by omega)
  rw [ha] at hl ⊢
  obtain ⟨x, rfl⟩ : ∃ x, ps = [x] := by
    match ps, hl with
    | [x], _ => exact ⟨x, rfl⟩
  have hx := hok x (by simp)
  have e : abE nd x = emN nd (([x][0]?).getD e0) (([x][1]?).getD e0) (lkE gs now) := ab_em hx (by omega)
  rw [← e]
  exact node_else nd _ _ A _ c (fun c hc => by omega) hN hx w hp rfl
end Go.Proofs.YtbnihflihelimaaGreat.N

namespace Go.Proofs.YtbnihflihelimaaGreat.N
open Go.RowKit Go.Maps
open Go.Proofs.YtbnihflihelimaaGreat.T
theorem RdE.same {W W' : World} {A : Option Addr} {l : List Em} (h : RdE W A l) (hz : W.heap.size ≤ W'.heap.size) (hb : ∀ g o, A = some ⟨g, o, none⟩ → W'.heap[g]? = W.heap[g]?) : RdE W' A l := fun hl => by
  obtain ⟨g, o, e, lt, c⟩ := h hl
  exact ⟨g, o, e, Nat.lt_of_lt_of_le lt hz, fun j x hx => (c j x hx).same (hb g o e)⟩
theorem KnI.same {W W' : World} {gs : GL} {B : Nat} {A : Option Addr} {now : List Em} (h : KnI W gs B A now) (hz : W.heap.size ≤ W'.heap.size) (hB : W'.heap[B]? = W.heap[B]?) (hb : ∀ g o, A = some ⟨g, o, none⟩ → W'.heap[g]? = W.heap[g]?) : KnI W' gs B A now := ⟨h.m.same hB, h.r.same hz hb, h.n⟩
/-- A right pattern that calls rules of the grammar alone. -/
structure PtR (gs : GL) (now : List Em) (L : List Nd) : Prop where
  rt : Rt L
  sz : ∀ n ∈ L, n.tx.size ≤ 140737488355328
  fd : ∀ n ∈ L, n.op = 6 → ∃ i, fdG gs n.tx = some i
  ok : OkN gs now
theorem PtR.al {gs : GL} {now : List Em} {L : List Nd} (h : PtR gs now L) : ∀ n ∈ L, alE n = 0 := fun n hn => by
  obtain ⟨k, hk⟩ := List.getElem?_of_mem hn
  exact (er_ok hk (h.rt.each k (List.getElem?_eq_some_iff.1 hk).1)).al
theorem PtR.lk {gs : GL} {now : List Em} {L : List Nd} (h : PtR gs now L) : ∀ n ∈ L, n.op = 6 → OkE (lkE gs now n.tx) := fun n hn h6 => by
  obtain ⟨k, hk⟩ := h.fd n hn h6
  have hlt := fdG_lt hk
  have hl := h.ok.n
  have e : now[k]? = some now[k] := List.getElem?_eq_getElem (by omega)
  unfold lkE
  rw [hk]
  show OkE ((now[k]?).getD e0)
  rw [e]
  exact h.ok.o _ (List.mem_of_getElem? e)
theorem PtR.ee {gs : GL} {now : List Em} {L : List Nd} (h : PtR gs now L) {j : Nat} (hj : j < L.length) : OkE (EE (lkE gs now) L j) :=
  emL_ok (kds_R h.rt) h.al h.lk L.length (Nat.le_refl _) _ (List.mem_of_getElem? (EE_at (Nat.le_refl _) hj))
theorem PtR.kids {gs : GL} {now : List Em} {L : List Nd} (h : PtR gs now L) {k : Nat} {n : Nd} (hn : L[k]? = some n) : ∀ e ∈ emS (EE (lkE gs now) L) ((run L k).take (arN n.op)), OkE e := fun e he => by
  have hlt := (List.getElem?_eq_some_iff.1 hn).1
  rw [kdR_of hn] at he
  obtain ⟨j, hj, rfl⟩ := List.mem_map.1 he
  have := (kds_R h.rt).lt k j hlt hj
  exact h.ee (by omega)
theorem PtR.klen {gs : GL} {now : List Em} {L : List Nd} (h : PtR gs now L) {k : Nat} {n : Nd} (hn : L[k]? = some n) : (emS (EE (lkE gs now) L) ((run L k).take (arN n.op))).length = arN n.op := by
  have hlt := (List.getElem?_eq_some_iff.1 hn).1
  have ho := (er_ok hn (h.rt.each k hlt)).ar
  rw [emS_len, List.length_take]
  omega
theorem PtR.node {gs : GL} {now : List Em} {L : List Nd} (h : PtR gs now L) {k : Nat} {n : Nd} (hn : L[k]? = some n) (B : Nat) (Ar A : Option Addr) (cr c : Nat) (w : World) (hk : KnI w gs B Ar now) (hp : RdE w A (emS (EE (lkE gs now) L) ((run L k).take (arN n.op)))) : Calls Tryz.prog 106 #[.agg #[.map (some B), .slice Ar now.length cr], ndG n, .slice A (arN n.op) c] w fun e w' => e = .returned (emG (EE (lkE gs now) L k)) ∧ Below w.heap.size w w' := by
  have hm := List.mem_of_getElem? hn
  rw [EE_step h.rt hn]
  exact node_any n B Ar A cr c _ (h.al n hm) (h.sz n hm) (h.fd n hm) (h.klen hn) (h.kids hn) w hk hp
def JK (gs : GL) (now : List Em) (Bm : Nat) (Ar : Option Addr) (Bk : Nat) (_k : Nat) (X : Nat → Prop) (w : World) : Prop := (∀ b, ¬ X b) ∧ KnI w gs Bm Ar now ∧ Bm < Bk ∧ ∀ g o, Ar = some ⟨g, o, none⟩ → g < Bk
theorem see_of {gs : GL} {now : List Em} {L : List Nd} (h : PtR gs now L) (Bm : Nat) (Ar : Option Addr) (cr Bc Bk : Nat) : See9 L 106 #[.agg #[.map (some Bm), .slice Ar now.length cr]] #[] (EE (lkE gs now) L) Bc Bk (JK gs now Bm Ar Bk) where
  kept := fun k X w w' hj hz hb => ⟨hj.1, hj.2.1.same hz (hb _ (.inl hj.2.2.1)) (fun g o e => hb _ (.inl (hj.2.2.2 g o e))), hj.2.2⟩
  far := fun k X w hj b hb => absurd hb (hj.1 b)
  call := fun k X w A c n hj hB hn hp _ => by
    refine (h.node hn Bm Ar A cr c w hj.2.1 hp).mono ?_
    rintro e w' ⟨rfl, hb⟩
    exact ⟨rfl, X, ⟨hj.1, hj.2.1.later hb, hj.2.2⟩, kp_of_below hb, fun b q => .inl q⟩
structure O2 (w W : World) (m s : Value) : Prop where
  b : Below w.heap.size w W
  k : KX W w.heap.size m s
  z : EX W (w.heap.size + 1) e0
theorem O2.start (w : World) (m s : Value) : O2 w ((w.alloc (.cells #[m, s] 129)).alloc (emO e0)) m s := by
  have s1 := World.size_alloc w (.cells #[m, s] 129)
  refine ⟨((Below.refl _ _).alloc (Nat.le_refl _) _).alloc (by omega) _, (KX.new w m s).below (below_box _ _), ?_⟩
  have h := EX.new (w.alloc (.cells #[m, s] 129)) e0; rw [s1] at h; exact h
theorem O2.later {w W W' : World} {m s : Value} (h : O2 w W m s) (hb : Below W.heap.size W W') : O2 w W' m s := ⟨h.b.trans (hb.mono h.b.size), h.k.below hb, h.z.below hb⟩
theorem O2.ret {w W : World} {m s : Value} (h : O2 w W m s) (f : Em) : EX (st4 W (w.heap.size + 1) f) (w.heap.size + 1) f ∧ Below w.heap.size w (st4 W (w.heap.size + 1) f) := ⟨h.z.all f, st4_below h.b (by omega) f⟩
theorem rde_lt {W : World} {A : Option Addr} {l : List Em} (h : RdE W A l) (hl : l ≠ []) : ∀ g o, A = some ⟨g, o, none⟩ → g < W.heap.size := fun g o e => by
  obtain ⟨g2, o2, e2, lt, _⟩ := h hl
  rw [e] at e2
  obtain ⟨rfl, _⟩ := Addr.mk.inj (Option.some.inj e2)
  exact lt
theorem enters_node (args : Array Value) (w : World) : (callFunc 106 args).run Tryz.prog w = .ok (.enter 106 args) w := enters_of Tryz.func106 (by kernel_rfl) rfl args w
theorem through_of {gs : GL} {now : List Em} {L : List Nd} (h : PtR gs now L) (B : Nat) (Ar Ap : Option Addr) (cr cp : Nat) (w : World) (hk : KnI w gs B Ar now) (hn : now ≠ []) (hL : RdN w Ap L) : Calls Tryz.prog 104 #[.slice Ap L.length cp, .func (.func 106) #[.agg #[.map (some B), .slice Ar now.length cr]] #[]] w fun e w' => e = .returned (emG (EE (lkE gs now) L (L.length - 1))) ∧ Below w.heap.size w w' := by
  refine (through9_any L 106 _ _ _ _ Ap cp w.heap.size h.rt w (Nat.le_refl _) hL ?_ enters_node (see_of h B Ar cr _ _) (fun _ => False) ⟨fun _ q => q, hk, hk.m.lt, rde_lt hk.r hn⟩ (fun _ q => q.elim)).mono ?_
  · rintro a rfl
    have hne : L ≠ [] := by rintro rfl; have := h.rt.one; simp [run] at this
    obtain ⟨g, o, e, lt, _⟩ := hL hne
    obtain rfl := Option.some.inj e
    exact lt
  · rintro e w' ⟨rfl, hb, _⟩
    exact ⟨rfl, hb⟩
set_option maxRecDepth 100000 in
set_option maxHeartbeats 8000000 in
/-- What is known of a pattern. -/
theorem of_any {gs : GL} {now : List Em} {L : List Nd} (h : PtR gs now L) (B : Nat) (Ar Ap : Option Addr) (cr cp : Nat) (w : World) (hk : KnI w gs B Ar now) (hn : now ≠ []) (hL : RdN w Ap L) : Calls Tryz.prog 109 #[.agg #[.map (some B), .slice Ar now.length cr], .slice Ap L.length cp] w fun e w' => e = .returned (emG (EE (lkE gs now) L (L.length - 1))) ∧ Below w.heap.size w w' := by
  have HA := (show Hid (O2 w ((w.alloc (.cells #[.map (some B), .slice Ar now.length cr] 129)).alloc (.cells #[.bool false, .bool false, .int .i64 0, .int .i64 0] 74)) (.map (some B)) (.slice Ar now.length cr)) from O2.start w _ _)
  obtain ⟨w1, hw1⟩ : ∃ w1, w1 = (w.alloc (.cells #[.map (some B), .slice Ar now.length cr] 129)).alloc (.cells #[.bool false, .bool false, .int .i64 0, .int .i64 0] 74) := ⟨_, rfl⟩
  have HE1 := (show Hid ((w.alloc (.cells #[.map (some B), .slice Ar now.length cr] 129)).alloc (.cells #[.bool false, .bool false, .int .i64 0, .int .i64 0] 74) = w1) from hw1.symm)
  rw [← hw1] at HA
  have q0 := HA.out.k.c0
  have q1 := HA.out.k.c1
  obtain ⟨⟨en, ec, el, em⟩, hE⟩ : ∃ e, e = EE (lkE gs now) L (L.length - 1) := ⟨_, rfl⟩
  have HT := (show Hid (Calls Tryz.prog 104 #[.slice Ap L.length cp, .func (.func 106) #[.agg #[.map (some B), .slice Ar now.length cr]] #[]] w1 fun e w' => e = .returned (.agg #[.bool en, .bool ec, .int .i64 el, .int .i64 em]) ∧ Below w1.heap.size w1 w') from by
    have t := through_of h B Ar Ap cr cp w1 (hk.later HA.out.b) hn (hL.below HA.out.b (Nat.le_refl _))
    rw [← hE] at t
    exact t)
  have HEE := (show Hid _ from hE)
  rw [← hE]
  clear hw1 h hk hn hL hE
  go_enter Tryz.func109, Tryz.ntmps109
  go_wp2_with (rw [HE1.out])
  refine HT.out.mono ?_
  rintro e w2 ⟨rfl, b2⟩
  have HA2 := (show Hid (O2 w w2 _ _) from HA.out.later b2)
  have f0 := HA2.out.z.fz 0
  have f1 := HA2.out.z.fz 1
  have f2 := HA2.out.z.fz 2
  have f3 := HA2.out.z.fz 3
  have z0 : w2.cell? ⟨w.heap.size + 1, 0, none⟩ = some (.bool false) := HA2.out.z.eb.c0
  have z1 : w2.cell? ⟨w.heap.size + 1, 1, none⟩ = some (.bool false) := HA2.out.z.eb.c1
  have z2 : w2.cell? ⟨w.heap.size + 1, 2, none⟩ = some (.int .i64 0) := HA2.out.z.eb.c2
  have z3 : w2.cell? ⟨w.heap.size + 1, 3, none⟩ = some (.int .i64 0) := HA2.out.z.eb.c3
  have HZ := (show Hid _ from HA2.out.ret ⟨en, ec, el, em⟩)
  clear HA HA2 b2 HT q0 q1
  go_wp2_with fail
  refine ret_ex (s := 4) (k := w.heap.size + 1) (by rfl) (by rfl) (by rfl) HZ.out.1 ?_
  exact ⟨rfl, HZ.out.2⟩
end Go.Proofs.YtbnihflihelimaaGreat.N

namespace Go.Proofs.YtbnihflihelimaaGreat.N
open Go.RowKit Go.Maps
open Go.Proofs.YtbnihflihelimaaGreat.T
def eqB (a b : Em) : Bool := (a.nu == b.nu) && ((a.cf == b.cf) && ((a.le == b.le) && (a.mo == b.mo)))
theorem eqB_iff {a b : Em} : eqB a b = true ↔ a = b := by
  obtain ⟨a1, a2, a3, a4⟩ := a
  obtain ⟨b1, b2, b3, b4⟩ := b
  unfold eqB
  simp only [Bool.and_eq_true, beq_iff_eq, Em.mk.injEq]
set_option maxRecDepth 100000 in
set_option maxHeartbeats 4000000 in
theorem em_neq (a b : Em) (W : World) : (binOp .neq 74 (emG a) (emG b)).run Tryz.prog W = .ok (.bool (!eqB a b)) W := by
  have hp : Tryz.prog.stoodInHeld 74 = false := by kernel_rfl
  obtain ⟨a1, a2, a3, a4⟩ := a
  obtain ⟨b1, b2, b3, b4⟩ := b
  unfold eqB
  cases hc : (a3 == b3)
  · cases a1 <;> cases b1 <;> cases a2 <;> cases b2 <;> simp [go_sem, Tryz.underlying74, Tryz.underlying3, Tryz.underlying4, Tryz.isAgg3, Tryz.isAgg4, hp, hc]
  cases hd : (a4 == b4)
  · cases a1 <;> cases b1 <;> cases a2 <;> cases b2 <;> simp [go_sem, Tryz.underlying74, Tryz.underlying3, Tryz.underlying4, Tryz.isAgg3, Tryz.isAgg4, hp, hc, hd]
  cases a1 <;> cases b1 <;> cases a2 <;> cases b2 <;> simp [go_sem, Tryz.underlying74, Tryz.underlying3, Tryz.underlying4, Tryz.isAgg3, Tryz.isAgg4, hp, hc, hd]
set_option maxRecDepth 100000 in
set_option maxHeartbeats 8000000 in
theorem equalE_any (l1 l2 : List Em) (A1 A2 : Option Addr) (c1 c2 : Nat) (hl : l1.length ≤ 140737488355328) (he : l2.length = l1.length) (w : World) (h1 : RdE w A1 l1) (h2 : RdE w A2 l2) :
    Calls Tryz.prog 92 #[.slice A1 l1.length c1, .slice A2 l2.length c2] w fun e w' => (∃ b, e = .returned (.bool b) ∧ (b = true ↔ l1 = l2)) ∧ ∃ m, w' = w.drewN m := by
  have H1 := (show Hid _ from h1)
  have H2 := (show Hid _ from h2)
  have HG := (show Hid (∀ k, k < l1.length → ∃ a b, l1[k]? = some a ∧ l2[k]? = some b ∧ l1 ≠ [] ∧ l2 ≠ []) from fun k hk => ⟨_, _, List.getElem?_eq_getElem hk, List.getElem?_eq_getElem (by omega), by rintro rfl; simp at hk, fun e => by rw [e] at he; have h : (0 : Nat) = l1.length := he; omega⟩)
  have HL := (show Hid (l2.length = l1.length) from he)
  rw [he]
  clear h1 h2 he
  go_enter Tryz.func92, Tryz.ntmps92
  go_wp2_with fail
  go_loopw [13] (fun t wr => ∃ k : Nat, k ≤ l1.length ∧ t = .int .i64 k ∧ Hid ((∃ m, wr = w.drewN m) ∧ l1.take k = l2.take k)) (fun t _ => l1.length - (intOf t).toNat)
  case atStart => exact ⟨0, by omega, by go_num, ⟨0, rfl⟩, by rw [List.take_zero, List.take_zero]⟩
  case round =>
    obtain ⟨k, hk, rfl, HW⟩ := hrel
    by_cases hlt : k < l1.length
    · obtain ⟨a, b, hn1, hn2, nl1, nl2⟩ := HG.out k hlt
      have hB : Below w.heap.size w wr := by obtain ⟨⟨m, rfl⟩, _⟩ := HW.out; exact below_drewN (Below.refl _ _) _
      obtain ⟨g1, o1, rfl, i1, q1⟩ := H1.out nl1
      obtain ⟨g2, o2, rfl, i2, q2⟩ := H2.out nl2
      obtain ⟨a0, a1, a2, a3⟩ := (q1 k a hn1).same (hB.block g1 i1)
      obtain ⟨d0, d1, d2, d3⟩ := (q2 k b hn2).same (hB.block g2 i2)
      have z0 : (0 : Int) ≤ (k : Int) := by omega
      have z1 : (k : Int) < (l1.length : Int) := by omega
      have HN := (show Hid (l1[k]? = some a ∧ l2[k]? = some b) from ⟨hn1, hn2⟩)
      clear HG H1 H2 q1 q2 nl1 nl2 hn1 hn2 hB
      have hneq := em_neq a b
      by_cases hab : a = b
      · rw [eqB_iff.2 hab] at hneq
        have HT := (show Hid (l1.take (k + 1) = l2.take (k + 1)) from by
          show List.take _ _ = _
          rw [List.take_add_one, List.take_add_one, HN.out.1, HN.out.2, HW.out.2, hab])
        clear hab
        simp only [emG] at hneq
        go_wp2_with fail
        go_quiet (fail)
        have HW2 := (show Hid ((∃ m, wr.drewN nq = w.drewN m) ∧ l1.take (k + 1) = l2.take (k + 1)) from ⟨by obtain ⟨⟨m, e⟩, _⟩ := HW.out; exact ⟨m + nq, by rw [e, World.drewN_drewN]⟩, HT.out⟩)
        generalize wr.drewN nq = w2 at *
        clear hneq a0 a1 a2 a3 d0 d1 d2 d3 HW
        go_wp2_with fail
        go_roundw
        case rel => exact ⟨k + 1, by omega, by go_num, HW2⟩
        case measure => simp [intOf]; omega
      · have hf : eqB a b = false := by
          cases q : eqB a b
          · rfl
          · exact absurd (eqB_iff.1 q) hab
        rw [hf] at hneq
        have HT := (show Hid (l1 ≠ l2) from fun e => hab (Option.some.inj (by rw [← HN.out.1, ← HN.out.2, e])))
        clear hab hf
        simp only [emG] at hneq
        go_wp2_with fail
        go_quiet (fail)
        have HW2 := (show Hid (∃ m, wr.drewN nq = w.drewN m) from by obtain ⟨⟨m, e⟩, _⟩ := HW.out; exact ⟨m + nq, by rw [e, World.drewN_drewN]⟩)
        generalize wr.drewN nq = w2 at *
        clear hneq a0 a1 a2 a3 d0 d1 d2 d3 HW
        go_wp2_with fail
        go_ret
        exact ⟨⟨false, rfl, ⟨fun q => (by cases q), fun q => absurd q HT.out⟩⟩, HW2.out⟩
    · obtain rfl : k = l1.length := by omega
      clear HG H1 H2
      go_wp2_with fail
      go_ret
      refine ⟨⟨true, rfl, ⟨fun _ => ?_, fun _ => rfl⟩⟩, HW.out.1⟩
      have h := HW.out.2
      rw [List.take_length] at h
      rw [h, ← HL.out, List.take_length]
end Go.Proofs.YtbnihflihelimaaGreat.N

namespace Go.Proofs.YtbnihflihelimaaGreat.N
open Go.RowKit Go.Maps
open Go.Proofs.YtbnihflihelimaaGreat.T
/-- A grammar that can be read, of a size that can be. -/
structure GI (W : World) (A : Option Addr) (gs : GL) : Prop where
  d : GrD W A gs
  l : gs.length ≤ 140737488355328
  t : ∀ g ∈ gs, g.1.size ≤ 140737488355328 ∧ g.2.length ≤ 140737488355328 ∧ ∀ n ∈ g.2, n.tx.size ≤ 140737488355328
theorem GI.later {W W' : World} {A : Option Addr} {gs : GL} (h : GI W A gs) (hb : Below W.heap.size W W') : GI W' A gs := ⟨h.d.later hb, h.l, h.t⟩
theorem GrIn.gi {W : World} {A : Option Addr} {c : Nat} {gs : GL} (h : GrIn W A c gs) : GI W A gs := ⟨h.d, by have := h.len; omega, h.tx⟩
theorem unG_zero {gs : GL} : ∀ (l : GL) (i : Nat), (unG gs i l).2 = 0 → unG gs i l = ((0, 0), 0) := by
  intro l
  induction l with
  | nil => intro i _; rfl
  | cons g l ih =>
    intro i h
    rw [unG_cons] at h ⊢
    cases q : unN gs 0 g.2 with
    | some k => rw [q] at h; exact absurd h (show (81 : Int) ≠ 0 by decide)
    | none => rw [q] at h; exact ih _ h
theorem ckG_zero {gs : GL} (h : (ckG gs).2 = 0) : ckG gs = ((0, 0), 0) := by
  unfold ckG at h ⊢
  by_cases h0 : gs.length = 0
  · rw [if_pos h0] at h; exact absurd h (by decide)
  · rw [if_neg h0] at h ⊢
    by_cases h2 : 200 < gs.length
    · rw [if_pos h2] at h; exact absurd h (by decide)
    · rw [if_neg h2] at h ⊢
      by_cases h3 : (c1G gs 0 0 gs).2 ≠ 0
      · rw [if_pos h3] at h; exact absurd h h3
      · rw [if_neg h3] at h ⊢; exact unG_zero _ _ h
theorem NuV.form {w w' : World} {gs : GL} {e : Ending} (h : NuV w w' gs e) : ∃ mv, e = .returned (.tuple #[mv, .agg #[.int .i64 (ckG gs).1.1, .int .i64 (ckG gs).1.2], .int .i64 (ckG gs).2]) ∧ ((ckG gs).2 = 0 → ∃ B, w.heap.size ≤ B ∧ mv = .map (some B) ∧ NmM w' B gs) := by
  rcases h with ⟨h1, h2⟩ | ⟨h1, B, h2, h3, h4⟩
  · exact ⟨_, h2, fun q => absurd q h1⟩
  · refine ⟨.map (some B), ?_, fun _ => ⟨B, h2, rfl, h4⟩⟩
    rw [ckG_zero h1]; exact h3
end Go.Proofs.YtbnihflihelimaaGreat.N

namespace Go.Proofs.YtbnihflihelimaaGreat.T
open Go.RowKit
theorem enters47 (args : Array Value) (w : World) : (callFunc 68 args).run Tryz.prog w = .ok (.enter 68 args) w := enters_of Tryz.func68 (by kernel_rfl) rfl args w
theorem step_call47 {ops : Array Oper} {o : Oper} {a : Act} {w : World} {K : Act → World → Prop} {Q : Exit → Act → World → Prop} {E : Prop} (hgd : o.guard = none) (x : Operand) (ho : o.op = .call { callee := .value (.func 68), args := #[x], argTypes := #[70] }) (v : Value) (hx : a.eval x = v)
    (hc : Calls Tryz.prog 68 #[v] w fun e w' => ∃ r, e = .returned r ∧ K (a.put o.dst r) w') :
    if Region.wanted o (yielded ops a.tmps) = true then Oper.wp Tryz.prog o a w K Q else E := by
  have hw : Region.wanted o (yielded ops a.tmps) = true := by simp [Region.wanted, hgd]
  rw [if_pos hw]
  have h47 := enters47
  have he : (execOp a.eval o).run Tryz.prog w = .ok (.enter 68 #[v]) w := by
    unfold execOp
    simp [ho, go_sem, invoke, h47]
    rw [← hx]
    cases x <;> simp [Act.eval]
  unfold Oper.wp
  rw [he, Oper.upon_enter]
  refine hc.mono ?_
  rintro e w' ⟨r, rfl, hk⟩
  exact hk
end Go.Proofs.YtbnihflihelimaaGreat.T

namespace Go.Proofs.YtbnihflihelimaaGreat.T
open Go.RowKit
theorem field_tx (n : Nd) (W : World) : (Instr.field 70 (ndG n) 2).run Tryz.prog W = .ok (.string n.tx) W := by
  simp [go_sem, asAgg, Instr.field, Tryz.isAgg9, Tryz.sizeOf9]
/-- A list of texts in a box. -/
structure TB (W : World) (b : Nat) (v : Value) : Prop where
  heap : W.heap[b]? = some (.cells #[v] 99 (0, 0))
theorem TB.lt {W : World} {b : Nat} {v : Value} (x : TB W b v) : b < W.heap.size := (Array.getElem?_eq_some_iff.1 x.heap).1
theorem TB.c0 {W : World} {b : Nat} {v : Value} (x : TB W b v) : W.cell? ⟨b, 0, none⟩ = some v := by rw [cell_of_row W b 0 _ 99 (0, 0) x.heap]; rfl
theorem TB.fz {W : World} {b : Nat} {v : Value} (x : TB W b v) : W.frozen? ⟨b, 0, none⟩ = false := frozen_of_row W b 0 _ 99 x.heap
theorem TB.same {W W' : World} {b : Nat} {v : Value} (x : TB W b v) (hb : W'.heap[b]? = W.heap[b]?) : TB W' b v := ⟨hb.trans x.heap⟩
theorem TB.set {W : World} {b : Nat} {v : Value} (x : TB W b v) (u : Value) : TB (W.setCell ⟨b, 0, none⟩ u) b u := ⟨by rw [heap_setCell_same W b 0 _ 99 _ x.heap]; rfl⟩

set_option maxRecDepth 100000 in
set_option maxHeartbeats 8000000 in
theorem names1_new (L : List Nd) (p : Pt) (va v : Value) (n : Nd) (l : List ByteArray) (g o cp bp bn B : Nat) (hl : l.length ≤ 2048) (w : World) (hn : L[p.2.1]? = some n) (_hne : bp ≠ bn) (hp : w.cell? ⟨bp, 0, none⟩ = some (.slice (some ⟨g, o, none⟩) L.length cp)) (hc : TB w bn v) (ho : w.ownsRow B 9 1 v l.length (stc l)) (hB : bn < B) (hBw : B ≤ w.heap.size) (hr : NdL w g o L) (_hg : g ≠ bn) (h6 : n.op = 6) (hi : inB n.tx l = false) :
    Calls Tryz.prog 66 #[ptG p, va, .pointer (some ⟨bp, 0, none⟩), .pointer (some ⟨bn, 0, none⟩)] w fun e w' => (∃ u, e = .returned u) ∧ ∃ v', TB w' bn v' ∧ w'.ownsRow B 9 1 v' (l.length + 1) (stc (l ++ [n.tx])) ∧ (∀ b, v'.ownBlock = some b → v.ownBlock = some b ∨ w.heap.size ≤ b) ∧ Kp (fun b => b = bn ∨ v.ownBlock = some b) w w' := by
  have hj : p.2.1 < L.length := by
    by_cases q : p.2.1 < L.length
    · exact q
    · rw [List.getElem?_eq_none (by omega)] at hn; cases hn
  obtain ⟨i0, hinf, hz0, hz1, hz2⟩ := info_parts Tryz.info9
  obtain ⟨e0, e1, e2, e3, e4, e5, e6⟩ := hr p.2.1 n hn
  have hlp := World.block_lt_of_cell? w _ hp
  have hlg := (hr p.2.1 n hn).lt
  have hlc := hc.lt
  simp only at hlp
  have c0 := hc.c0
  have f0 := hc.fz
  have z0 : (0 : Int) ≤ (p.2.1 : Int) := by omega
  have z1 : (p.2.1 : Int) < (L.length : Int) := by omega
  have t6 : (n.op == 6) = true := beq_iff_eq.2 h6
  have HCo : Hid (∀ n w, Calls Tryz.prog 68 #[ndG n] w fun e w' => e = .returned (ndG n) ∧ Below w.heap.size w w') := fun n w => copied_any n w
  have HCn : Hid (∀ W, Below w.heap.size w W → Calls Tryz.prog 67 #[v, .string n.tx] W fun e w' => e = .returned (.bool false) ∧ w' = W) := fun W hW => by
    have h := contains_any v n.tx l (by omega) W (own_rdt (own_below ho hW) rfl)
    rw [hi] at h
    exact h
  obtain ⟨W2, hW2⟩ : ∃ W2, W2 = (w.alloc (.cells #[.int .i64 p.1, .int .i64 p.2.1, .int .i64 p.2.2] 120)).alloc (.cells #[.int .i64 n.op, .int .i64 n.nn, .string n.tx, .int .u64 n.s0, .int .u64 n.s1, .int .u64 n.s2, .int .u64 n.s3] 70) := ⟨_, rfl⟩
  have hB2 : Below w.heap.size w W2 := by rw [hW2]; exact (below_box w _).alloc (below_box w _).size _
  have HB2 := (show Hid (Below w.heap.size w W2) from hB2)
  have hx2 : NB W2 (w.heap.size + 1) 0 n := by
    rw [hW2]
    have h := nb_new (w.alloc (.cells #[.int .i64 p.1, .int .i64 p.2.1, .int .i64 p.2.2] 120)) n
    rw [World.size_alloc] at h
    exact h
  have hs2 : W2.heap.size = w.heap.size + 2 := by rw [hW2]; simp
  have HO := (show Hid (W2.ownsRow B 9 1 v l.length (stc l)) from own_below ho hB2)
  have HT := (show Hid (TB W2 bn v) from hc.same (hB2.block bn hlc))
  have HX := (show Hid (NB W2 (w.heap.size + 1) 0 n) from hx2)
  have HCn2 := (show Hid (∀ _ : Unit, Calls Tryz.prog 67 #[v, .string n.tx] W2 fun e w' => e = .returned (.bool false) ∧ w' = W2) from fun _ => HCn.out W2 hB2)
  have HTw := (show Hid (TB w bn v) from hc)
  have HRw := (show Hid (∀ j, v.ownBlock = some j → j < w.heap.size) from fun j hj => (ho.lt j hj).2)
  clear hr hn hc ho h6 hi hx2 hB2 HCn
  subst hW2
  go_enter Tryz.func66, Tryz.ntmps66
  go_wp2_with fail
  refine (HCn2.out ()).mono ?_
  rintro e w3 ⟨rfl, rfl⟩
  clear HCn2 e0 e1 e2 e3 e4 e5 e6 c0 f0 hp t6
  generalize hW2 : (w.alloc (.cells #[.int .i64 p.1, .int .i64 p.2.1, .int .i64 p.2.2] 120)).alloc (.cells #[.int .i64 n.op, .int .i64 n.nn, .string n.tx, .int .u64 n.s0, .int .u64 n.s1, .int .u64 n.s2, .int .u64 n.s3] 70) = W2 at *
  clear hW2
  have k0 := HT.out.c0
  have f0 := HT.out.fz
  obtain ⟨d0, d1, d2, d3, d4, d5, d6⟩ := HX.out
  simp only [Nat.zero_add] at d0 d1 d2 d3 d4 d5 d6
  have hbn : bn < w.heap.size := hlc
  have hfl := field_tx n
  have HAp := (show Hid (∀ W : World, Below W2.drew.heap.size W2.drew W → ∃ g3 cap w5, (Builtin.append_ #[99, 99] 99 #[v, .slice (some ⟨W.heap.size, 0, none⟩) 1 1]).run Tryz.prog (W.alloc (.cells #[.string n.tx] 9)) = .ok (.slice (some ⟨g3, 0, none⟩) (l.length + 1) cap) w5 ∧ (w5.ownsRow B 9 1 (.slice (some ⟨g3, 0, none⟩) (l.length + 1) cap) (l.length + 1) (stc l ++ [.string n.tx]) ∧ (W.alloc (.cells #[.string n.tx] 9)).grownBy w5 v.ownBlock ∧ (v.ownBlock = some g3 ∨ g3 = W.heap.size + 1) ∧ g3 < w5.heap.size)) from fun W hW =>
    run_append_lies (P := Tryz.prog) (W.alloc (.cells #[.string n.tx] 9)) 99 99 B 9 i0 (.string ⟨#[]⟩) 1 16 Tryz.underlying99 hinf hz0 hz1 hz2 rfl (by decide) v l.length (stc l) ((own_below (own_drew HO.out) hW).alloc _) ⟨W.heap.size, 0, none⟩ 1 1 [.string n.tx] rfl (cell_one_new _ _ _) (by simp [Value.oneCell']) (by decide) (by unfold maxLen; omega) (by omega) (by have q1 := hW.size; have q2 : W2.drew.heap.size = W2.heap.size := rfl; rw [World.size_alloc]; omega) (W.heap.size + 1) (by simp))
  have HRow := (show Hid (∀ j, v.ownBlock = some j → B ≤ j ∧ j < W2.heap.size ∧ j < w.heap.size) from fun j hj => ⟨(HO.out.lt j hj).1, (HO.out.lt j hj).2, HRw.out j hj⟩)
  have HS := (show Hid (∀ W : World, (W.heap[bn]? = W2.heap[bn]?) → (W.heap[w.heap.size + 1]? = W2.heap[w.heap.size + 1]?) → W.cell? ⟨bn, 0, none⟩ = some v ∧ W.frozen? ⟨bn, 0, none⟩ = false ∧ W.cell? ⟨w.heap.size + 1, 0, none⟩ = some (.int .i64 n.op) ∧ W.cell? ⟨w.heap.size + 1, 1, none⟩ = some (.int .i64 n.nn) ∧ W.cell? ⟨w.heap.size + 1, 2, none⟩ = some (.string n.tx) ∧ W.cell? ⟨w.heap.size + 1, 3, none⟩ = some (.int .u64 n.s0) ∧ W.cell? ⟨w.heap.size + 1, 4, none⟩ = some (.int .u64 n.s1) ∧ W.cell? ⟨w.heap.size + 1, 5, none⟩ = some (.int .u64 n.s2) ∧ W.cell? ⟨w.heap.size + 1, 6, none⟩ = some (.int .u64 n.s3)) from fun W q1 q2 => by
    have h1 := HT.out.same q1
    have h2 := HX.out.same q2
    obtain ⟨d0, d1, d2, d3, d4, d5, d6⟩ := h2
    simp only [Nat.zero_add] at d0 d1 d2 d3 d4 d5 d6
    exact ⟨h1.c0, h1.fz, d0, d1, d2, d3, d4, d5, d6⟩)
  have HS2 := (show Hid (∀ W W5 : World, Below W2.drew.heap.size W2.drew W → (W.alloc (.cells #[.string n.tx] 9)).grownBy W5 v.ownBlock → W5.cell? ⟨bn, 0, none⟩ = some v ∧ W5.frozen? ⟨bn, 0, none⟩ = false ∧ W5.cell? ⟨w.heap.size + 1, 0, none⟩ = some (.int .i64 n.op) ∧ W5.cell? ⟨w.heap.size + 1, 1, none⟩ = some (.int .i64 n.nn) ∧ W5.cell? ⟨w.heap.size + 1, 2, none⟩ = some (.string n.tx) ∧ W5.cell? ⟨w.heap.size + 1, 3, none⟩ = some (.int .u64 n.s0) ∧ W5.cell? ⟨w.heap.size + 1, 4, none⟩ = some (.int .u64 n.s1) ∧ W5.cell? ⟨w.heap.size + 1, 5, none⟩ = some (.int .u64 n.s2) ∧ W5.cell? ⟨w.heap.size + 1, 6, none⟩ = some (.int .u64 n.s3)) from fun W W5 hW hg => by
    have q : ∀ b, b = bn ∨ b = w.heap.size + 1 → W5.heap[b]? = W2.heap[b]? := fun b hb => by
      have hb2 : b < W2.heap.size := by omega
      have hbW : b < W.heap.size := Nat.lt_of_lt_of_le hb2 hW.size
      rw [hg.block b (by rw [World.size_alloc]; omega) (fun e => by have := HRow.out b e.symm; omega), (below_box W _).block b hbW]
      exact hW.block b hb2
    exact HS.out W5 (q bn (.inl rfl)) (q _ (.inr rfl)))
  have HS1 := (show Hid (∀ W : World, Below W2.drew.heap.size W2.drew W → W.cell? ⟨bn, 0, none⟩ = some v ∧ W.frozen? ⟨bn, 0, none⟩ = false ∧ W.cell? ⟨w.heap.size + 1, 0, none⟩ = some (.int .i64 n.op) ∧ W.cell? ⟨w.heap.size + 1, 1, none⟩ = some (.int .i64 n.nn) ∧ W.cell? ⟨w.heap.size + 1, 2, none⟩ = some (.string n.tx) ∧ W.cell? ⟨w.heap.size + 1, 3, none⟩ = some (.int .u64 n.s0) ∧ W.cell? ⟨w.heap.size + 1, 4, none⟩ = some (.int .u64 n.s1) ∧ W.cell? ⟨w.heap.size + 1, 5, none⟩ = some (.int .u64 n.s2) ∧ W.cell? ⟨w.heap.size + 1, 6, none⟩ = some (.int .u64 n.s3)) from fun W hW => HS.out W (hW.block bn (by show bn < W2.heap.size; omega)) (hW.block (w.heap.size + 1) (by show w.heap.size + 1 < W2.heap.size; omega)))
  have HS4 := (show Hid (∀ W W5 : World, Below W2.drew.heap.size W2.drew W → (W.alloc (.cells #[.string n.tx] 9)).grownBy W5 v.ownBlock → ∀ b, b < w.heap.size → v.ownBlock ≠ some b → W5.heap[b]? = w.heap[b]?) from fun W W5 hW hg b hb hnb => by
    have hb2 : b < W2.heap.size := by omega
    have hbW : b < W.heap.size := Nat.lt_of_lt_of_le hb2 hW.size
    rw [hg.block b (by rw [World.size_alloc]; omega) (fun e => hnb e.symm), (below_box W _).block b hbW]
    exact (hW.block b hb2).trans (HB2.out.block b hb))
  have HS3 := (show Hid (∀ W : World, Below W2.drew.heap.size W2.drew W → (W.alloc (.cells #[.string n.tx] 9)).cell? ⟨bn, 0, none⟩ = some v) from fun W hW => by
    have h1 : TB W bn v := HT.out.same (hW.block bn (by show bn < W2.heap.size; omega))
    exact (h1.same ((below_box W _).block bn h1.lt)).c0)
  go_wp2_with fail
  go_region_law ((first
      | (refine step_call47 rfl _ (by rfl) _ (by rfl) ?_; refine (HCo.out n _).mono ?_; rintro e wA ⟨rfl, bA⟩; refine ⟨_, rfl, ?_⟩; obtain ⟨kA, fA, a0, a1, a2, a3, a4, a5, a6⟩ := HS1.out _ bA; have kB := HS3.out _ bA)
      | (refine step_append_lies _ (by rfl) _ _ _ (by rfl) B 9 i0 _ 1 16 Tryz.underlying99 hinf hz0 hz1 hz2 rfl (by omega) _ _ (stc l) (by rfl) ((own_below (own_drew HO.out) bA).alloc _) ⟨wA.heap.size, 0, none⟩ 1 1 [.string n.tx] (by rfl) (by rfl) (cell_one_new _ _ _) (by simp [Value.oneCell']) (by omega) (by unfold maxLen; omega) (by omega) (by have q1 := bA.size; have q2 : W2.drew.heap.size = W2.heap.size := rfl; rw [World.size_alloc]; omega) (wA.heap.size + 1) (by simp) ?_; intro g3 cap w5 hown1 hgrow hat hltg; obtain ⟨k5, f5, r0, r1, r2, r3, r4, r5, r6⟩ := HS2.out _ _ bA hgrow)))
  all_goals
    have h4 := HS4.out _ _ bA hgrow
    have hbnv : v.ownBlock ≠ some bn := fun e => by have := (HRow.out bn e).1; omega
    have hT5 : TB w5 bn v := HTw.out.same (h4 bn hlc hbnv)
    have hfin : (∃ v', TB (w5.setCell ⟨bn, 0, none⟩ (.slice (some ⟨g3, 0, none⟩) (l.length + 1) cap)) bn v' ∧ (w5.setCell ⟨bn, 0, none⟩ (.slice (some ⟨g3, 0, none⟩) (l.length + 1) cap)).ownsRow B 9 1 v' (l.length + 1) (stc (l ++ [n.tx])) ∧ (∀ b, v'.ownBlock = some b → v.ownBlock = some b ∨ w.heap.size ≤ b) ∧ Kp (fun b => b = bn ∨ v.ownBlock = some b) w (w5.setCell ⟨bn, 0, none⟩ (.slice (some ⟨g3, 0, none⟩) (l.length + 1) cap))) := by
      have q1 := bA.size
      have q2 : W2.drew.heap.size = W2.heap.size := rfl
      have q3 := HB2.out.size
      refine ⟨_, hT5.set _, ?_, fun b e => ?_, ⟨?_, ?_, ?_, ?_, fun b hb hnb => ?_⟩⟩
      · have h5 := ownsRow_setCell_below hown1 (a := ⟨bn, 0, none⟩) hB (.slice (some ⟨g3, 0, none⟩) (l.length + 1) cap)
        unfold stc
        rw [List.map_append]
        exact h5
      · have e2 : g3 = b := Option.some.inj e
        subst e2
        rcases hat with q | q
        · exact .inl q
        · exact .inr (by omega)
      · exact hgrow.os.trans (bA.os.trans HB2.out.os)
      · exact hgrow.tape.trans (bA.tape.trans HB2.out.tape)
      · exact hgrow.output.trans (bA.output.trans HB2.out.output)
      · have := hgrow.size; rw [World.size_alloc] at this; rw [World.size_setCell]; omega
      · rw [heap_setCell_other _ _ _ _ (fun e => hnb (.inl e))]
        exact h4 b hb (fun e => hnb (.inr e))
    go_end0
    exact ⟨⟨_, rfl⟩, hfin⟩
end Go.Proofs.YtbnihflihelimaaGreat.T

namespace Go.Proofs.YtbnihflihelimaaGreat.T
open Go.RowKit
theorem enters49 (args : Array Value) (w : World) : (callFunc 66 args).run Tryz.prog w = .ok (.enter 66 args) w := enters_of Tryz.func66 (by kernel_rfl) rfl args w
set_option maxRecDepth 100000 in
set_option maxHeartbeats 8000000 in
theorem names1_old (L : List Nd) (p : Pt) (va v : Value) (n : Nd) (l : List ByteArray) (g o cp bp bn B : Nat) (hl : l.length ≤ 2048) (w : World) (hn : L[p.2.1]? = some n) (hp : w.cell? ⟨bp, 0, none⟩ = some (.slice (some ⟨g, o, none⟩) L.length cp)) (hc : TB w bn v) (ho : w.ownsRow B 9 1 v l.length (stc l)) (hr : NdL w g o L) (h6 : ¬ (n.op = 6 ∧ inB n.tx l = false)) :
    Calls Tryz.prog 66 #[ptG p, va, .pointer (some ⟨bp, 0, none⟩), .pointer (some ⟨bn, 0, none⟩)] w fun e w' => (∃ u, e = .returned u) ∧ Below w.heap.size w w' := by
  have hj : p.2.1 < L.length := by
    by_cases q : p.2.1 < L.length
    · exact q
    · rw [List.getElem?_eq_none (by omega)] at hn; cases hn
  obtain ⟨e0, e1, e2, e3, e4, e5, e6⟩ := hr p.2.1 n hn
  have hlp := World.block_lt_of_cell? w _ hp
  have hlg := (hr p.2.1 n hn).lt
  have hlc := hc.lt
  simp only at hlp
  have c0 := hc.c0
  have z0 : (0 : Int) ≤ (p.2.1 : Int) := by omega
  have z1 : (p.2.1 : Int) < (L.length : Int) := by omega
  obtain ⟨W2, hW2⟩ : ∃ W2, W2 = (w.alloc (.cells #[.int .i64 p.1, .int .i64 p.2.1, .int .i64 p.2.2] 120)).alloc (.cells #[.int .i64 n.op, .int .i64 n.nn, .string n.tx, .int .u64 n.s0, .int .u64 n.s1, .int .u64 n.s2, .int .u64 n.s3] 70) := ⟨_, rfl⟩
  have hB2 : Below w.heap.size w W2 := by rw [hW2]; exact (below_box w _).alloc (below_box w _).size _
  have HB2 := (show Hid (Below w.heap.size w W2) from hB2)
  by_cases q6 : n.op = 6
  · have t6 : (n.op == 6) = true := beq_iff_eq.2 q6
    have hi : inB n.tx l = true := by
      cases q : inB n.tx l with
      | true => rfl
      | false => exact absurd ⟨q6, q⟩ h6
    have HCn : Hid (∀ _ : Unit, Calls Tryz.prog 67 #[v, .string n.tx] W2 fun e w' => e = .returned (.bool true) ∧ w' = W2) := fun _ => by
      have h := contains_any v n.tx l (by omega) W2 (own_rdt (own_below ho hB2) rfl)
      rw [hi] at h
      exact h
    clear hr hn hc ho h6 q6 hi hB2
    subst hW2
    go_enter Tryz.func66, Tryz.ntmps66
    go_wp2_with fail
    refine (HCn.out ()).mono ?_
    rintro e w3 ⟨rfl, rfl⟩
    clear HCn e0 e1 e2 e3 e4 e5 e6 c0 hp t6
    go_wp2_with fail
    go_end0
    exact ⟨⟨_, rfl⟩, HB2.out⟩
  · have t6 : (n.op == 6) = false := beq_eq_false_iff_ne.2 q6
    clear hr hn hc ho h6 q6 hB2
    subst hW2
    go_enter Tryz.func66, Tryz.ntmps66
    go_wp2_with fail
    go_end0
    exact ⟨⟨_, rfl⟩, HB2.out⟩

structure JM (L : List Nd) (Ap : Option Addr) (cp bp bn Bc B k : Nat) (X : Nat → Prop) (w : World) : Prop where
  far : Bc ≤ bp ∧ Bc ≤ bn ∧ bp < B ∧ bn < B ∧ bp ≠ bn ∧ Bc ≤ B
  s : ∃ v, TB w bn v ∧ (∀ b, X b ↔ b = bn ∨ v.ownBlock = some b) ∧ w.ownsRow B 9 1 v (nmL L k).length (stc (nmL L k))
  p : w.cell? ⟨bp, 0, none⟩ = some (.slice Ap L.length cp)
  r : L ≠ [] → ∃ g o, Ap = some ⟨g, o, none⟩ ∧ g < Bc ∧ g < w.heap.size ∧ NdL w g o L
theorem JM.kept {L : List Nd} {Ap : Option Addr} {cp bp bn Bc B k : Nat} {X : Nat → Prop} {w w' : World} (h : JM L Ap cp bp bn Bc B k X w) (hz : w.heap.size ≤ w'.heap.size) (hb : ∀ b, (b < B ∨ X b) → w'.heap[b]? = w.heap[b]?) : JM L Ap cp bp bn Bc B k X w' := by
  obtain ⟨f1, f2, f3, f4, f5, f6⟩ := h.far
  obtain ⟨v, hs, hx, ho⟩ := h.s
  refine ⟨h.far, ⟨v, hs.same (hb bn (.inl f4)), hx, ho.1, ?_⟩, (World.cell?_of_block (a := ⟨bp, 0, none⟩) (hb bp (.inl f3))).trans h.p, fun hne => ?_⟩
  · rcases ho.2 with q | ⟨g, cap, cur, rfl, r1, r2, rest⟩
    · exact .inl q
    · exact .inr ⟨g, cap, cur, rfl, r1, (hb g (.inr ((hx g).2 (.inr rfl)))).trans r2, rest⟩
  · obtain ⟨g, o, e, q1, q2, q3⟩ := h.r hne
    exact ⟨g, o, e, q1, by omega, q3.same (hb g (.inl (by omega)))⟩
theorem see49 (L : List Nd) (Ap : Option Addr) (cp bp bn Bc B : Nat) (hL : L.length ≤ 2048) : See L 66 #[.pointer (some ⟨bp, 0, none⟩), .pointer (some ⟨bn, 0, none⟩)] Bc B (JM L Ap cp bp bn Bc B) := by
  refine ⟨fun k X w w' h hz hb => h.kept hz hb, fun k X w h b hb => ?_, fun k X w A c h hB hk he hr hA => ?_⟩
  · obtain ⟨v, hs, hx, ho⟩ := h.s
    rcases (hx b).1 hb with rfl | q
    · exact ⟨h.far.2.1, hs.lt⟩
    · have := ho.lt b q; have := h.far.2.2.2.2.2; omega
  · obtain ⟨f1, f2, f3, f4, f5, f6⟩ := h.far
    obtain ⟨v, hs, hx, ho⟩ := h.s
    obtain ⟨g, o, rfl, q1, q2, q3⟩ := h.r (by rintro rfl; simp at hk)
    have hn : L[k]? = some L[k] := List.getElem?_eq_getElem hk
    have hpl : (pt L k).2.1 = k := mk_last _ _ _ _
    have hln := nmL_len L k
    have hrow : ∀ b, v.ownBlock = some b → B ≤ b := fun b q => (ho.lt b q).1
    have hpk : ∀ {W : World}, (∀ b, b < w.heap.size → b < B → b ≠ bn → W.heap[b]? = w.heap[b]?) → W.cell? ⟨bp, 0, none⟩ = some (.slice (some ⟨g, o, none⟩) L.length cp) ∧ NdL W g o L := fun hW =>
      ⟨(World.cell?_of_block (a := ⟨bp, 0, none⟩) (hW bp (World.block_lt_of_cell? w _ h.p) f3 f5)).trans h.p, q3.same (hW g q2 (by omega) (by omega))⟩
    by_cases h6 : L[k].op = 6 ∧ inB L[k].tx (nmL L k) = false
    · have hc := names1_new L (pt L k) (.slice A (arN (opAt L k)) c) v L[k] (nmL L k) g o cp bp bn B (by omega) w (by rw [hpl]; exact hn) f5 h.p hs ho f4 hB q3 (by omega) h6.1 h6.2
      refine hc.mono fun e w' ⟨hu, v', h1, h2, h3, h4⟩ => ⟨hu, fun b => b = bn ∨ v'.ownBlock = some b, ⟨h.far, ⟨v', h1, fun b => Iff.rfl, by rw [nmL_succ hn, if_pos h6, List.length_append]; exact h2⟩, (hpk (fun b b1 b2 b3 => h4.block b b1 (by rintro (q | q); exact b3 q; have := hrow b q; omega))).1, fun _ => ⟨g, o, rfl, q1, Nat.lt_of_lt_of_le q2 h4.size, (hpk (fun b b1 b2 b3 => h4.block b b1 (by rintro (q | q); exact b3 q; have := hrow b q; omega))).2⟩⟩, ⟨h4.os, h4.tape, h4.output, h4.size, fun b hb hnx => h4.block b hb (fun q => hnx ((hx b).2 q))⟩, fun b q => ?_⟩
      rcases q with q | q
      · exact .inl ((hx b).2 (.inl q))
      · rcases h3 b q with r | r
        · exact .inl ((hx b).2 (.inr r))
        · exact .inr r
    · have hc := names1_old L (pt L k) (.slice A (arN (opAt L k)) c) v L[k] (nmL L k) g o cp bp bn B (by omega) w (by rw [hpl]; exact hn) h.p hs ho q3 h6
      refine hc.mono fun e w' ⟨hu, hb⟩ => ⟨hu, X, ⟨h.far, ⟨v, hs.same (hb.block bn hs.lt), hx, by rw [nmL_succ hn, if_neg h6]; exact own_below ho hb⟩, (hpk (fun b b1 _ _ => hb.block b b1)).1, fun _ => ⟨g, o, rfl, q1, Nat.lt_of_lt_of_le q2 hb.size, (hpk (fun b b1 _ _ => hb.block b b1)).2⟩⟩, ⟨hb.os, hb.tape, hb.output, hb.size, fun b hlt _ => hb.block b hlt⟩, fun b q => .inl q⟩
end Go.Proofs.YtbnihflihelimaaGreat.T

namespace Go.Proofs.YtbnihflihelimaaGreat.T
open Go.RowKit
set_option maxRecDepth 100000 in
set_option maxHeartbeats 1000000 in
theorem through_long (L : List Nd) (Ap : Option Addr) (cp : Nat) (sv : Value) (hlong : 2048 < L.length) (w : World) :
    Calls Tryz.prog 65 #[.slice Ap L.length cp, sv] w fun e w' => e = .returned (.tuple #[.int .i64 (ck L).1, .int .i64 (ck L).2]) ∧ w' = w := by
  have HE := (show Hid (ck L = (0, 2)) from ck_long hlong)
  have z : (2048 : Int) < (L.length : Int) := by omega
  go_enter Tryz.func65, Tryz.ntmps65
  go_wp2_with fail
  go_ret2
  exact ⟨by rw [HE.out]; rfl, rfl⟩

set_option maxRecDepth 100000 in
set_option maxHeartbeats 4000000 in
theorem names_any (L : List Nd) (Ap : Option Addr) (cp : Nat) (hL : L.length ≤ 140737488355328) (hT : ∀ n ∈ L, n.tx.size ≤ 140737488355328) (w : World) (hp : RdN w Ap L) :
    Calls Tryz.prog 47 #[.slice Ap L.length cp] w fun e w' => NmV w w' L e ∧ Below w.heap.size w w' := by
  obtain ⟨W2, hW2⟩ : ∃ W2, W2 = (w.alloc (.cells #[.slice Ap L.length cp] 41)).alloc (.cells #[.slice none 0 0] 99) := ⟨_, rfl⟩
  have hB1 := below_box w (.cells #[.slice Ap L.length cp] 41)
  have hB2 : Below w.heap.size w W2 := by rw [hW2]; exact hB1.alloc hB1.size _
  have hs2 : W2.heap.size = w.heap.size + 2 := by rw [hW2]; simp
  have e0 : W2.heap[w.heap.size]? = some (.cells #[.slice Ap L.length cp] 41 (0, 0)) := by
    rw [hW2, (below_box _ _).block _ (by simp)]
    exact heap_alloc_new w _
  have e1 : W2.heap[w.heap.size + 1]? = some (.cells #[.slice none 0 0] 99 (0, 0)) := by
    rw [hW2]
    have h := heap_alloc_new (w.alloc (.cells #[.slice Ap L.length cp] 41)) (.cells #[.slice none 0 0] 99)
    rw [World.size_alloc] at h
    exact h
  have k0 : W2.cell? ⟨w.heap.size, 0, none⟩ = some (.slice Ap L.length cp) := by rw [cell_of_row W2 _ 0 _ 41 (0, 0) e0]; rfl
  have HT : Hid (∀ _ : Unit, Calls Tryz.prog 65 #[.slice Ap L.length cp, .func (.func 66) #[] #[.pointer (some ⟨w.heap.size, 0, none⟩), .pointer (some ⟨w.heap.size + 1, 0, none⟩)]] W2 fun e w' => e = .returned (.tuple #[.int .i64 (ck L).1, .int .i64 (ck L).2]) ∧ Below w.heap.size W2 w' ∧ ((ck L).2 = 0 → ∃ v, TB w' (w.heap.size + 1) v ∧ w'.ownsRow w.heap.size 9 1 v (nmL L L.length).length (stc (nmL L L.length)))) := fun _ => by
    by_cases hlen : 2048 < L.length
    · exact (through_long L Ap cp _ hlen W2).mono fun e w' ⟨h1, h2⟩ => ⟨h1, by rw [h2]; exact Below.refl _ _, fun q => by rw [ck_long hlen] at q; cases q⟩
    · refine (through_any L 66 _ _ Ap cp w.heap.size hL hT W2 (by omega) (hp.below hB2 (Nat.le_refl _)) (fun hne a ha => by
        obtain ⟨g, o, e, lt, _⟩ := hp hne
        rw [e] at ha
        cases ha
        exact lt) enters49 (see49 L Ap cp w.heap.size (w.heap.size + 1) w.heap.size W2.heap.size (by omega)) (fun b => b = w.heap.size + 1) ⟨by omega, ⟨_, ⟨e1⟩, fun b => by simp [Value.ownBlock], World.ownsRow_nil _ _ _ _⟩, k0, fun hne => ?_⟩).mono fun e w' ⟨h1, h2, k, X, hj, hk⟩ => ⟨h1, h2, fun q => by
          obtain ⟨v, h3, _, h4⟩ := hj.s
          rw [hk q] at h4
          exact ⟨v, h3, own_base h4 (by omega)⟩⟩
      obtain ⟨g, o, e, lt, cl⟩ := hp hne
      exact ⟨g, o, e, lt, by omega, cl.same (hB2.block g lt)⟩
  have HB2 := (show Hid (Below w.heap.size w W2) from hB2)
  clear hB1 hB2 e0 e1 hp hT hs2
  have HE : Hid (nmE L = if (ck L).2 = 0 then nmL L L.length else []) := rfl
  subst hW2
  go_enter Tryz.func47, Tryz.ntmps47
  go_wp2_with fail
  refine (HT.out ()).mono ?_
  rintro e w3 ⟨rfl, b3, hn⟩
  have HB3 := (show Hid (Below w.heap.size w w3) from HB2.out.trans b3)
  clear HT b3 HB2 k0
  by_cases hc : (ck L).2 = 0
  · obtain ⟨v, h3, h4⟩ := hn hc
    have c0 := h3.c0
    have HI := (show Hid (nmE L = nmL L L.length ∧ (ck L).2 = 0) from ⟨by rw [HE.out, if_pos hc], hc⟩)
    have HO := (show Hid (w3.ownsRow w.heap.size 9 1 v (nmL L L.length).length (stc (nmL L L.length))) from h4)
    have t1 : ((ck L).2 != 0) = false := by rw [hc]; rfl
    clear hn hc HE h3 h4
    go_wp2_with fail
    go_ret2
    exact ⟨⟨v, by rw [HI.out.2]; rfl, by rw [HI.out.1]; exact HO.out⟩, HB3.out⟩
  · have HI := (show Hid (nmE L = []) from by show nmE L = _; rw [HE.out, if_neg hc])
    have t1 : ((ck L).2 != 0) = true := by rw [bne, beq_eq_false_iff_ne.2 hc]; rfl
    clear hn hc HE
    go_wp2_with fail
    go_ret2
    exact ⟨⟨_, rfl, by rw [HI.out]; exact World.ownsRow_nil _ _ _ _⟩, HB3.out⟩
end Go.Proofs.YtbnihflihelimaaGreat.T
