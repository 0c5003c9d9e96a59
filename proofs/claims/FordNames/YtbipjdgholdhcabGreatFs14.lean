/- DERIVED. Plain mathematics and walks, laid together (14). -/
import Derived.Deep.RegionLaw
import Derived.Test.YtbipjdgholdhcabGreatFs13
namespace Go.Proofs.YtbipjdgholdhcabGreat.N
open Go.RowKit Go.Maps
open Go.Proofs.YtbipjdgholdhcabGreat.T
theorem filter_more {f : Nat → Bool} {n : Nat} (h : ∀ q, f q = true → q < n) : ∀ d, (List.range (n + d)).filter f = (List.range n).filter f := by
  intro d
  induction d with
  | zero => rfl
  | succ d ih =>
    rw [← Nat.add_assoc, filter_succ, ih]
    split
    · next e => have := h _ e; omega
    · rfl
theorem filter_200 {n : Nat} {f : Nat → Bool} (hn : n ≤ 200) (h : ∀ q, f q = true → q < n) : (List.range 200).filter f = (List.range n).filter f := by
  have e := filter_more h (200 - n)
  rw [Nat.add_sub_cancel' hn] at e
  exact e
theorem hpS_at {L : List Nd} {E : Nat → Hp} {k : Nat} {n : Nd} (hn : L[k]? = some n) : hpS E ((run L k).take (arN n.op)) = (kdR L k).map E := by
  unfold hpS kdR
  rw [op_of hn, List.map_map, ← List.map_reverse]
  rfl
theorem hb_step {gs : GL} {now : List Em} {L : List Nd} {E : Nat → Hp} (hks : Kds (kdR L) L) (hE : E = fun j => (nuR gs now L j, hbA (kdR L) (nuR gs now L) (fdG gs) L j)) {k : Nat} {n : Nd} (hn : L[k]? = some n) (_hal : ∀ n ∈ L, alE n = 0) : (E k).2 = hbN n (((hpS E ((run L k).take (arN n.op)))[0]?).getD hp0).2 (((hpS E ((run L k).take (arN n.op)))[1]?).getD hp0).2 (((hpS E ((run L k).take (arN n.op)))[0]?).getD hp0).1 (fdG gs) := by
  rw [hpS_at hn]
  have hl := hks.n k n hn
  have ha : ∀ i, i < arN n.op → (kdR L k)[i]? = some (((kdR L k)[i]?).getD k) := fun i hi => by
    rw [List.getElem?_eq_getElem (by omega)]
    rfl
  have h := hbA_step (may := nuR gs now L) (c := fdG gs) hks hn ha
  have e2 : (E k).2 = hbA (kdR L) (nuR gs now L) (fdG gs) L k := by rw [hE]
  rw [e2, h]
  have key : ∀ i : Nat, ((((kdR L k).map E)[i]?).getD hp0).2 = if i < arN n.op then hbA (kdR L) (nuR gs now L) (fdG gs) L (((kdR L k)[i]?).getD k) else nil1 := fun i => by
    rw [List.getElem?_map]
    by_cases hi : i < arN n.op
    · rw [if_pos hi, List.getElem?_eq_getElem (by omega), hE]
      rfl
    · rw [if_neg hi, List.getElem?_eq_none (by omega)]
      rfl
  rw [key 0, key 1]
  by_cases h7 : n.op = 7
  · have a2 := arN_2 (n := n) (.inl h7)
    have e3 : ((((kdR L k).map E)[0]?).getD hp0).1 = nuR gs now L (((kdR L k)[0]?).getD k) := by
      rw [List.getElem?_map, List.getElem?_eq_getElem (by omega), hE]
      rfl
    rw [e3]
  · unfold hbN
    simp only [h7, if_false]

open U (below_grown own_get own_slice)
theorem enters_begins (args : Array Value) (w : World) : (callFunc 42 args).run Tryz.prog w = .ok (.enter 42 args) w := enters_of Tryz.func42 (by kernel_rfl) rfl args w
/-- Calls of three slots, as one step of a region that draws its order. -/
theorem step_call3 {F : Nat} (hen : ∀ args w, (callFunc F args).run Tryz.prog w = .ok (.enter F args) w) {ops : Array Oper} {o : Oper} {a : Act} {w : World} {K : Act → World → Prop} {Q : Exit → Act → World → Prop} {E : Prop} (hgd : o.guard = none) (x y z : Nat) (T U V : TypeId) (ho : o.op = .call { callee := .value (.func F), args := #[.tmp x, .tmp y, .tmp z], argTypes := #[T, U, V] }) (u v s : Value) (hx : a.eval (.tmp x) = u) (hy : a.eval (.tmp y) = v) (hz : a.eval (.tmp z) = s)
    (hc : Calls Tryz.prog F #[u, v, s] w fun e w' => ∃ r, e = .returned r ∧ K (a.put o.dst r) w') :
    if Region.wanted o (yielded ops a.tmps) = true then Oper.wp Tryz.prog o a w K Q else E := by
  have hw : Region.wanted o (yielded ops a.tmps) = true := by simp [Region.wanted, hgd]
  rw [if_pos hw]
  have he : (execOp a.eval o).run Tryz.prog w = .ok (.enter F #[u, v, s]) w := by
    have hx2 : a.tmps[x]?.getD undef = u := by simpa [Act.eval] using hx
    have hy2 : a.tmps[y]?.getD undef = v := by simpa [Act.eval] using hy
    have hz2 : a.tmps[z]?.getD undef = s := by simpa [Act.eval] using hz
    unfold execOp
    simp [ho, go_sem, invoke, hen]
    exact ⟨hx2, hy2, hz2⟩
  unfold Oper.wp
  rw [he, Oper.upon_enter]
  refine hc.mono ?_
  rintro e w' ⟨r, rfl, hk⟩
  exact hk
structure HoS (w wr : World) (r m kv : Value) (gN N k : Nat) (E : Nat → Hp) (L : List Nd) (v : Value) : Prop where
  b : Below w.heap.size w wr
  x : VX wr w.heap.size r m kv
  u : ∀ j, j < L.length → wr.cell? ⟨gN, j, none⟩ = some (.bool (E j).1)
  o : wr.ownsRow N 90 201 v (run L k).length (hpc (hpS E (run L k)))
  n : w.heap.size + 1 ≤ N ∧ gN < N ∧ N ≤ wr.heap.size
theorem HoS.later {w wr w2 : World} {r m kv : Value} {gN N k : Nat} {E : Nat → Hp} {L : List Nd} {v : Value} (h : HoS w wr r m kv gN N k E L v) (hb : Below wr.heap.size wr w2) : HoS w w2 r m kv gN N k E L v :=
  ⟨h.b.trans (hb.mono h.b.size), h.x.below hb, fun j hj => (hb.cell (p := ⟨gN, j, none⟩) (Nat.lt_of_lt_of_le h.n.2.1 h.n.2.2)).trans (h.u j hj), U.own_below h.o hb, h.n.1, h.n.2.1, Nat.le_trans h.n.2.2 hb.size⟩
theorem HoS.push {w wr w2 : World} {r m kv : Value} {gN N k : Nat} {E : Nat → Hp} {L : List Nd} {v v2 : Value} (h : HoS w wr r m kv gN N k E L v) {row : Option Nat} (hg : wr.grownBy w2 row) (hrow : ∀ q, row = some q → v.ownBlock = some q) (ho : w2.ownsRow N 90 201 v2 (run L (k + 1)).length (hpc (hpS E (run L (k + 1))))) : HoS w w2 r m kv gN N (k + 1) E L v2 := by
  have hlow : ∀ q, row = some q → N ≤ q := fun q hq => (h.o.lt q (hrow q hq)).1
  have hn := h.n
  refine ⟨below_grown h.b hg (fun q e => by have := hlow q e; omega), h.x.same (hg.block _ h.x.lt (fun e => by have := hlow _ e.symm; omega)), fun j hj => ?_, ho, hn.1, hn.2.1, Nat.le_trans hn.2.2 hg.size⟩
  rw [World.cell?_of_block (a := ⟨gN, j, none⟩) (hg.block gN (by omega) (fun e => by have := hlow _ e.symm; omega))]
  exact h.u j hj
/-- Behind a part that was told: its box, and the rest. -/
structure HoB (w W : World) (kk : Nat) (p : Hp) (r m kv : Value) (gN N k : Nat) (E : Nat → Hp) (L : List Nd) (v : Value) : Prop where
  s : HoS w W r m kv gN N k E L v
  p : PX W kk p
attribute [local go_sem ↓] ld_fold st_fold ldp_fold stp_fold bdp_fold bsp_fold alp_fold
attribute [local go_sem] ld_run st_run ldp_run stp_run bdp_run bsp_run alp_run
set_option maxRecDepth 100000 in
set_option maxHeartbeats 64000000 in
theorem headsOf_any {gs : GL} {now : List Em} (mb : Nat) (A Ak : Option Addr) (c ck : Nat) {r : Nat} {gn : ByteArray} {L : List Nd} (hg : gs[r]? = some (gn, L)) (w : World) (hv : VwO w gs A mb Ak now) :
    Calls Tryz.prog 24 #[.agg #[.slice A gs.length c, .map (some mb), .slice Ak gs.length ck], .int .i64 (r : Int)] w fun e w' => (∃ v, e = .returned v ∧ w'.ownsRow w.heap.size 3 1 v (hdl gs.length (hdM gs (nbE now)) r).length ((hdl gs.length (hdM gs (nbE now)) r).map U.nI)) ∧ Below w.heap.size w w' := by
  have hm := List.mem_of_getElem? hg
  have hrl : r < gs.length := (List.getElem?_eq_some_iff.1 hg).1
  obtain ⟨hrt, hks, hal0, hpos, hlen⟩ := rt_facts hv.R hm
  have hrt : Rt L := hrt
  have hks : Kds (kdR L) L := hks
  have hal0 : ∀ n ∈ L, alE n = 0 := hal0
  have hpos : 0 < L.length := hpos
  have hlen : L.length ≤ 2048 := hlen
  have hsz : ∀ n ∈ L, n.tx.size ≤ 140737488355328 := (hv.g.t _ hm).2.2
  obtain ⟨b, o, A3, c3, rfl, lb, _, x1, r2⟩ := hv.g.d r _ hg
  have hLn : L ≠ [] := by rintro rfl; simp at hpos
  obtain ⟨gp, op, rfl, lp, cl⟩ := r2 hLn
  obtain ⟨E, hE⟩ : ∃ E : Nat → Hp, E = fun j => (nuR gs now L j, hbA (kdR L) (nuR gs now L) (fdG gs) L j) := ⟨_, rfl⟩
  have HSt := (show Hid (∀ (k : Nat) n, L[k]? = some n → (E k).2 = hbN n (((hpS E ((run L k).take (arN n.op)))[0]?).getD hp0).2 (((hpS E ((run L k).take (arN n.op)))[1]?).getD hp0).2 (((hpS E ((run L k).take (arN n.op)))[0]?).getD hp0).1 (fdG gs)) from fun k n hn => hb_step hks hE hn hal0)
  have HEnd := (show Hid ((List.range 200).filter (E (L.length - 1)).2 = hdl gs.length (hdM gs (nbE now)) r) from by
    have h : (E (L.length - 1)).2 = hdM gs (nbE now) r := by rw [hE]; funext q; rw [hdM_of hg]; rfl
    rw [h]
    exact filter_200 hv.R.n2 (fun q hq => (hdM_lt hv.R r q hq).2))
  have HE1s := (show Hid (∀ j, (E j).1 = nuR gs now L j) from fun j => by rw [hE])
  obtain ⟨w1, hw1⟩ : ∃ w1, w1 = w.alloc (.cells #[.slice (some ⟨b, o, none⟩) gs.length c, .map (some mb), .slice Ak gs.length ck] 66) := ⟨_, rfl⟩
  have HE1 := (show Hid (w.alloc (.cells #[.slice (some ⟨b, o, none⟩) gs.length c, .map (some mb), .slice Ak gs.length ck] 66) = w1) from hw1.symm)
  have hb1 : Below w.heap.size w w1 := by rw [hw1]; exact below_box _ _
  have hs1 : w1.heap.size = w.heap.size + 1 := by rw [hw1, World.size_alloc]
  have hx1 : VX w1 w.heap.size (.slice (some ⟨b, o, none⟩) gs.length c) (.map (some mb)) (.slice Ak gs.length ck) := by rw [hw1]; exact VX.new w _ _ _
  have HNu := (show Hid (∀ _ : Unit, Calls Tryz.prog 40 #[.agg #[.slice (some ⟨b, o, none⟩) gs.length c, .map (some mb), .slice Ak gs.length ck], .int .i64 (r : Int)] w1 fun e w' => (∃ v, e = .returned v ∧ w'.ownsRow w1.heap.size 4 1 v L.length ((List.range L.length).map fun j => Value.bool (nuR gs now L j))) ∧ Below w1.heap.size w1 w') from fun _ => nullable_any mb (some ⟨b, o, none⟩) Ak c ck hg w1 (hv.later hb1))
  have HBe := (show Hid (∀ (W : World) (n : Nd) (A4 : Option Addr) (c4 : Nat) (ps : List Hp), Below w.heap.size w W → n ∈ L → ps.length = arN n.op → RdP W A4 ps → Calls Tryz.prog 42 #[.agg #[.slice (some ⟨b, o, none⟩) gs.length c, .map (some mb), .slice Ak gs.length ck], ndG n, .slice A4 (arN n.op) c4] W fun e w' => e = .returned (.agg (mkA (hbN n ((ps[0]?).getD hp0).2 ((ps[1]?).getD hp0).2 ((ps[0]?).getD hp0).1 (fdG gs)))) ∧ Below W.heap.size W w') from fun W n A4 c4 ps hW hn hl hp => begins_any n _ _ mb A4 c4 ps (hal0 n hn) (hsz n hn) (fun h6 => hv.R.dn.c _ hm n hn h6) hv.R.n2 hl W (hv.m.later hW) hp)
  have HCl := (show Hid (NdL w gp op L ∧ gp < w.heap.size) from ⟨cl, lp⟩)
  have HG := (show Hid (∀ k, k < L.length → ∃ n, L[k]? = some n ∧ alE n = 0 ∧ arN n.op ≤ (run L k).length) from fun k hk => by
    have e : L[k]? = some L[k] := List.getElem?_eq_getElem hk
    have h := er_ok e (hrt.each k hk)
    exact ⟨_, e, h.al, h.ar⟩)
  have HOne := (show Hid ((run L L.length).length = 1 ∧ 0 < L.length) from ⟨hrt.one, hpos⟩)
  have HP1 := (show Hid (Below w.heap.size w w1 ∧ w1.heap.size = w.heap.size + 1 ∧ VX w1 w.heap.size (.slice (some ⟨b, o, none⟩) gs.length c) (.map (some mb)) (.slice Ak gs.length ck)) from ⟨hb1, hs1, hx1⟩)
  have HLb := (show Hid (b < w.heap.size ∧ w.cell? ⟨b, o + r * 2 + 1, none⟩ = some (.slice (some ⟨gp, op, none⟩) L.length c3)) from ⟨lb, x1⟩)
  have y0 : w1.cell? ⟨w.heap.size, 0, none⟩ = _ := hx1.c0
  have y1 : w1.cell? ⟨w.heap.size, 1, none⟩ = _ := hx1.c1
  have y2 : w1.cell? ⟨w.heap.size, 2, none⟩ = _ := hx1.c2
  have z0 : (0 : Int) ≤ (r : Int) := by omega
  have z1 : (r : Int) < (gs.length : Int) := by omega
  obtain ⟨i0, hinf, hz0, hz1, hz2⟩ := info_parts Tryz.infoPt
  clear hg hm hrl hrt hpos hsz lb x1 r2 hLn lp cl hw1 hb1 hs1 hx1 hv hks hal0 hE
  go_enter Tryz.func24, Tryz.ntmps24
  go_wp2_with (rw [HE1.out])
  refine (HNu.out ()).mono ?_
  rintro e w2 ⟨⟨vn, rfl, hon⟩, b2⟩
  obtain ⟨gN, cN, rfl, _, lN, _, _⟩ := own_get hon (j := 0) (x := .bool (nuR gs now L 0)) (by rw [List.getElem?_map, List.getElem?_range HOne.out.2]; rfl)
  have HS := (show Hid (HoS w w2 (.slice (some ⟨b, o, none⟩) gs.length c) (.map (some mb)) (.slice Ak gs.length ck) gN w2.heap.size 0 E L (.slice none 0 0)) from by
    obtain ⟨h1, h2, h3⟩ := HP1.out
    have hb := h1.trans (b2.mono h1.size)
    refine ⟨hb, h3.below b2, fun j hj => ?_, World.ownsRow_nil _ _ _ _, by have := b2.size; omega, lN, Nat.le_refl _⟩
    obtain ⟨g5, c5, e5, _, _, x5, _⟩ := own_get hon (j := j) (x := .bool (nuR gs now L j)) (by rw [List.getElem?_map, List.getElem?_range hj]; rfl)
    injection e5 with e6 _ _
    obtain ⟨rfl, _⟩ := Addr.mk.inj (Option.some.inj e6)
    rw [HE1s.out j]
    exact x5)
  have x2 := (HS.out.b.cell (p := ⟨b, o + r * 2 + 1, none⟩) HLb.out.1).trans HLb.out.2
  have v0 : w2.cell? ⟨w.heap.size, 0, none⟩ = _ := HS.out.x.c0
  generalize hN : w2.heap.size = N at HS
  clear hN hon b2 lN HNu HE1 y0 y1 y2 HP1
  go_wp2_with fail
  clear x2 v0
  go_loopw [6, 21] (fun v t wr => ∃ (k : Nat), k ≤ L.length ∧ t = .int .i64 (k : Int) ∧ Hid (HoS w wr (.slice (some ⟨b, o, none⟩) gs.length c) (.map (some mb)) (.slice Ak gs.length ck) gN N k E L v)) (fun _ t _ => L.length - (intOf t).toNat)
  case atStart => exact ⟨0, Nat.zero_le _, by go_num, HS⟩
  case round =>
    obtain ⟨k, hk, rfl, HW⟩ := hrel
    clear HS
    by_cases hlt : k < L.length
    · obtain ⟨n, hn, hal, har⟩ := HG.out k hlt
      have HNn := (show Hid (L[k]? = some n) from hn)
      have HAr : Hid (∀ w, Calls Tryz.prog 41 #[.int .i64 n.op] w fun e w' => e = .returned (.int .i64 ((arN n.op : Nat) : Int)) ∧ w' = w) := fun w => by rw [arN_of hal]; exact arity_any n.op w
      obtain ⟨c0, c1, c2, c3', c4, c5, c6⟩ := (HCl.out.1.same (HW.out.b.block gp HCl.out.2)) k n hn
      have z2 : (0 : Int) ≤ (k : Int) := by omega
      have z3 : (k : Int) < (L.length : Int) := by omega
      obtain ⟨A, cA, hv, hAo⟩ : ∃ A c, u6 = .slice A (run L k).length c ∧ (A = none ∧ (run L k).length = 0 ∧ c = 0 ∨ ∃ g, A = some ⟨g, 0, none⟩ ∧ g < wr.heap.size ∧ (run L k).length ≤ c) := by
        rcases HW.out.o.2 with ⟨q1, q2⟩ | ⟨g, cap, cur, q1, q2, q3, q4, _⟩
        · exact ⟨none, 0, by rw [q1, q2], .inl ⟨rfl, q2, rfl⟩⟩
        · exact ⟨_, cap, q1, .inr ⟨g, rfl, (Array.getElem?_eq_some_iff.1 q3).1, q4⟩⟩
      subst hv
      obtain ⟨w3, hw3⟩ : ∃ w3, w3 = wr.alloc (ndO n) := ⟨_, rfl⟩
      have HE3 := (show Hid (wr.alloc (.cells #[.int .i64 n.op, .int .i64 n.nn, .string n.tx, .int .u64 n.s0, .int .u64 n.s1, .int .u64 n.s2, .int .u64 n.s3] 57) = w3) from hw3.symm)
      have HN3 := (show Hid (NX w3 wr.heap.size n) from by rw [hw3]; exact ⟨heap_alloc_new wr _⟩)
      have hb3 : Below wr.heap.size wr w3 := by rw [hw3]; exact below_box _ _
      have HW3 := (show Hid (HoS w w3 (.slice (some ⟨b, o, none⟩) gs.length c) (.map (some mb)) (.slice Ak gs.length ck) gN N k E L (.slice A (run L k).length cA)) from HW.out.later hb3)
      have b0 := HN3.out.nb.c0
      have hml : (run L k).length ≤ 2048 := by have := run_len L k; omega
      have HAo := (show Hid _ from hAo)
      obtain ⟨rr, hr⟩ : ∃ r, r + arN n.op = (run L k).length := ⟨(run L k).length - arN n.op, by omega⟩
      clear hn hal har hAo hw3 hb3 HW HG
      obtain ⟨m, hm⟩ : ∃ m, m = (run L k).length := ⟨_, rfl⟩
      have HM := (show Hid (m = (run L k).length) from hm)
      rw [← hm] at hr hml ⊢
      have hsub : (m : Int) - (arN n.op : Int) = (rr : Int) := by omega
      have HAa := (show Hid (arN n.op ≤ 2 ∧ rr + arN n.op = m) from ⟨arN_le _, hr⟩)
      have hmr : m - rr = arN n.op := by omega
      have zr : (rr : Int) ≤ (m : Int) := by omega
      have zr0 : (0 : Int) ≤ (rr : Int) := by omega
      have zc : (m : Int) ≤ (cA : Int) := by
        rcases HAo.out with ⟨_, q2, q3⟩ | ⟨g, _, _, q3⟩
        · omega
        · omega
      obtain ⟨A2, hA2, hA2r⟩ : ∃ A2, (if cA = rr then A else Option.map (fun x => x.add (rr * 201)) A) = A2 ∧ RdP w3 A2 (hpS E ((run L k).take (arN n.op))) := by
        refine ⟨_, rfl, ?_⟩
        by_cases hx0 : (hpS E ((run L k).take (arN n.op))) = []
        · rw [hx0]
          intro j p hp
          cases hp
        · have ha0 : 0 < ((run L k).take (arN n.op)).length := by
            rw [← hpS_len E]; exact List.length_pos_iff.2 hx0
          rw [List.length_take] at ha0
          rcases HAo.out with ⟨q1, q2, q3⟩ | ⟨g, q1, q2, q3⟩
          · omega
          · have hc : ¬ cA = rr := by omega
            rw [if_neg hc, q1]
            have ho := HW3.out.o
            rw [q1] at ho
            have hra : (hpS E ((run L k).drop (arN n.op))).length = rr := by rw [hpS_len, List.length_drop]; omega
            have h := hp_read ho _ _ (hpS_split E (run L k) (arN n.op))
            rw [hra] at h
            rw [Option.map_some, Addr.add_lit, Nat.zero_add]
            exact h
      have HR2 := (show Hid (RdP w3 A2 (hpS E ((run L k).take (arN n.op)))) from hA2r)
      clear hA2r hr hm
      go_wp2_with (rw [HE3.out])
      refine (HAr.out _).mono ?_
      rintro e w4 ⟨rfl, rfl⟩
      clear HAr c0 c1 c2 c3' c4 c5 c6 b0 HE3
      obtain ⟨pb, hpb⟩ : ∃ pb, pb = (E k).1 := ⟨_, rfl⟩
      obtain ⟨pf, hpf⟩ : ∃ pf, pf = (E k).2 := ⟨_, rfl⟩
      have HEk := (show Hid ((pb, pf) = E k) from by show (pb, pf) = E k; rw [hpb, hpf])
      have HW4 := (show Hid (HoS w w4 (.slice (some ⟨b, o, none⟩) gs.length c) (.map (some mb)) (.slice Ak gs.length ck) gN N k E L (.slice A m cA)) from by rw [HM.out]; exact HW3.out)
      have hD : Below w4.heap.size w4 w4.drew := (Below.refl _ _).drew
      obtain ⟨wz, hwz⟩ : ∃ wz, wz = (w4.alloc (.cells (hpV hp0).toArray 90)).drew := ⟨_, rfl⟩
      have hZ : Below w4.heap.size w4 wz := by rw [hwz]; exact (below_box w4 _).drew
      have hPz : PX wz w4.heap.size hp0 := by rw [hwz]; exact PX.below ⟨heap_alloc_new w4 _⟩ (Below.refl _ _).drew
      have HC := (show Hid (∀ W, Below w4.heap.size w4 W → Calls Tryz.prog 42 #[.agg #[.slice (some ⟨b, o, none⟩) gs.length c, .map (some mb), .slice Ak gs.length ck], ndG n, .slice A2 (arN n.op) (cA - rr)] W fun e w' => e = .returned (.agg (mkA pf)) ∧ Below W.heap.size W w') from fun W hW => by
        have hl : (hpS E ((run L k).take (arN n.op))).length = arN n.op := by rw [hpS_len, List.length_take, ← HM.out]; have := HAa.out; omega
        have h := HBe.out W n A2 (cA - rr) _ (HW4.out.b.trans (hW.mono HW4.out.b.size)) (List.mem_of_getElem? HNn.out) hl (HR2.out.later hW)
        rw [← HSt.out k n HNn.out, ← hpf] at h
        exact h)
      -- the box first, or the call first
      have HA1 := (show Hid (∀ w5 : World, Below w4.drew.heap.size w4.drew w5 → w5.cell? ⟨gN, k, none⟩ = some (.bool pb) ∧ (w5.alloc (.cells (hpV hp0).toArray 90)).cell? ⟨gN, k, none⟩ = some (.bool pb) ∧ OkP (w5.alloc (.cells (hpV hp0).toArray 90)) w5.heap.size ∧ Hid (HoB w ((w5.alloc (.cells (hpV hp0).toArray 90)).setRow w5.heap.size (hpV (pb, pf)).toArray) w5.heap.size (pb, pf) (.slice (some ⟨b, o, none⟩) gs.length c) (.map (some mb)) (.slice Ak gs.length ck) gN N k E L (.slice A m cA))) from fun w5 h5 => by
        have h6 : Below w4.heap.size w4 w5 := ⟨h5.os, h5.tape, h5.output, h5.size, h5.block⟩
        have hp : PX (w5.alloc (.cells (hpV hp0).toArray 90)) w5.heap.size hp0 := ⟨heap_alloc_new w5 _⟩
        have m5 := (HW4.out.later h6).u k hlt
        rw [← hpb] at m5
        have m6 := ((HW4.out.later h6).later (below_box w5 (.cells (hpV hp0).toArray 90))).u k hlt
        rw [← hpb] at m6
        refine ⟨m5, m6, ⟨_, hp⟩, (HW4.out.later h6).later (below_setRow (below_box w5 _) (Nat.le_refl _) _), ⟨setRow_heap _ _ _ _ 90 (0, 0) hp.heap⟩⟩)
      have HA2 := (show Hid (∀ w5 : World, Below wz.heap.size wz w5 → w5.cell? ⟨gN, k, none⟩ = some (.bool pb) ∧ OkP w5 w4.heap.size ∧ Hid (HoB w (w5.setRow w4.heap.size (hpV (pb, pf)).toArray) w4.heap.size (pb, pf) (.slice (some ⟨b, o, none⟩) gs.length c) (.map (some mb)) (.slice Ak gs.length ck) gN N k E L (.slice A m cA))) from fun w5 h5 => by
        have h6 : Below w4.heap.size w4 w5 := hZ.trans (h5.mono hZ.size)
        have hp := hPz.below h5
        have m5 := (HW4.out.later h6).u k hlt
        rw [← hpb] at m5
        refine ⟨m5, ⟨_, hp⟩, HW4.out.later (below_setRow h6 (Nat.le_refl _) _), ⟨setRow_heap _ _ _ _ 90 (0, 0) hp.heap⟩⟩)
      have HD := (show Hid (Below w4.heap.size w4 w4.drew ∧ Below w4.heap.size w4 wz) from ⟨hD, hZ⟩)
      have d0 : w4.drew.cell? ⟨wr.heap.size, 0, none⟩ = some (.int .i64 n.op) := (nx_below HN3.out hD).nb.c0
      have d1 : w4.drew.cell? ⟨wr.heap.size, 1, none⟩ = some (.int .i64 n.nn) := (nx_below HN3.out hD).nb.c1
      have d2 : w4.drew.cell? ⟨wr.heap.size, 2, none⟩ = some (.string n.tx) := (nx_below HN3.out hD).nb.c2
      have d3 : w4.drew.cell? ⟨wr.heap.size, 3, none⟩ = some (.int .u64 n.s0) := (nx_below HN3.out hD).nb.c3
      have d4 : w4.drew.cell? ⟨wr.heap.size, 4, none⟩ = some (.int .u64 n.s1) := (nx_below HN3.out hD).nb.c4
      have d5 : w4.drew.cell? ⟨wr.heap.size, 5, none⟩ = some (.int .u64 n.s2) := (nx_below HN3.out hD).nb.c5
      have d6 : w4.drew.cell? ⟨wr.heap.size, 6, none⟩ = some (.int .u64 n.s3) := (nx_below HN3.out hD).nb.c6
      have e0' : wz.cell? ⟨wr.heap.size, 0, none⟩ = some (.int .i64 n.op) := (nx_below HN3.out hZ).nb.c0
      have e1' : wz.cell? ⟨wr.heap.size, 1, none⟩ = some (.int .i64 n.nn) := (nx_below HN3.out hZ).nb.c1
      have e2' : wz.cell? ⟨wr.heap.size, 2, none⟩ = some (.string n.tx) := (nx_below HN3.out hZ).nb.c2
      have e3' : wz.cell? ⟨wr.heap.size, 3, none⟩ = some (.int .u64 n.s0) := (nx_below HN3.out hZ).nb.c3
      have e4' : wz.cell? ⟨wr.heap.size, 4, none⟩ = some (.int .u64 n.s1) := (nx_below HN3.out hZ).nb.c4
      have e5' : wz.cell? ⟨wr.heap.size, 5, none⟩ = some (.int .u64 n.s2) := (nx_below HN3.out hZ).nb.c5
      have e6' : wz.cell? ⟨wr.heap.size, 6, none⟩ = some (.int .u64 n.s3) := (nx_below HN3.out hZ).nb.c6
      have g0 : w4.drew.cell? ⟨w.heap.size, 0, none⟩ = _ := (HW4.out.later hD).x.c0
      have g1 : w4.drew.cell? ⟨w.heap.size, 1, none⟩ = _ := (HW4.out.later hD).x.c1
      have g2 : w4.drew.cell? ⟨w.heap.size, 2, none⟩ = _ := (HW4.out.later hD).x.c2
      have h0' : wz.cell? ⟨w.heap.size, 0, none⟩ = _ := (HW4.out.later hZ).x.c0
      have h1' : wz.cell? ⟨w.heap.size, 1, none⟩ = _ := (HW4.out.later hZ).x.c1
      have h2' : wz.cell? ⟨w.heap.size, 2, none⟩ = _ := (HW4.out.later hZ).x.c2
      have m0 := (HW4.out.later hD).u k hlt
      have m1 := (HW4.out.later hZ).u k hlt
      rw [← hpb] at m0 m1
      rw [hwz] at e0' e1' e2' e3' e4' e5' e6' h0' h1' h2' m1
      clear hpb hpf hD hZ hPz HR2 HN3 HW3
      go_wp2_with fail
      go_region_law (first
        | (refine step_call3 enters_begins rfl _ _ _ _ _ _ (by rfl) (.agg #[.slice (some ⟨b, o, none⟩) gs.length c, .map (some mb), .slice Ak gs.length ck]) (ndG n) (.slice A2 (arN n.op) (cA - rr)) (by rfl) (by rfl) (by rfl) ?_; with_reducible refine (HC.out w4.drew HD.out.1).mono ?_; rintro e w5 ⟨rfl, b5⟩; refine ⟨_, rfl, ?_⟩; obtain ⟨m5, m6, s5, HF⟩ := HA1.out w5 b5)
        | (refine step_call3 enters_begins rfl _ _ _ _ _ _ (by rfl) (.agg #[.slice (some ⟨b, o, none⟩) gs.length c, .map (some mb), .slice Ak gs.length ck]) (ndG n) (.slice A2 (arN n.op) (cA - rr)) (by rfl) (by rfl) (by rfl) ?_; rw [← hwz]; with_reducible refine (HC.out wz HD.out.2).mono ?_; rintro e w5 ⟨rfl, b5⟩; refine ⟨_, rfl, ?_⟩; obtain ⟨m5, s5, HF⟩ := HA2.out w5 b5))
      all_goals
        first
          | (generalize (w5.alloc (.cells (hpV hp0).toArray 90)).setRow w5.heap.size (hpV (pb, pf)).toArray = w6 at HF ⊢
             generalize w5.heap.size = kk at HF ⊢
             clear m6)
          | (generalize w5.setRow w4.heap.size (hpV (pb, pf)).toArray = w6 at HF ⊢
             generalize w4.heap.size = kk at HF ⊢)
        clear m5 s5 b5 HA1 HA2 HC HD hwz d0 d1 d2 d3 d4 d5 d6 e0' e1' e2' e3' e4' e5' e6' g0 g1 g2 h0' h1' h2' m0 m1 HW4
        have p5 : OkP w6 kk := ⟨_, HF.out.p⟩
        have q5 : ldPv w6 kk = .agg (hpV (pb, pf)).toArray := HF.out.p.val
        have p5d : OkP w6.drew kk := ⟨_, HF.out.p.below (Below.refl _ _).drew⟩
        have q5d : ldPv w6.drew kk = .agg (hpV (pb, pf)).toArray := (HF.out.p.below (Below.refl _ _).drew).val
        have zc2 : (rr : Int) ≤ (cA : Int) := by omega
        have HO5 := (show Hid (w6.ownsRow N 90 201 (.slice A rr cA) rr (hpc (hpS E ((run L k).drop (arN n.op))))) from hp_front (m := m) (by have h := HF.out.s.o; rw [← HM.out] at h; exact h) (hpS_split E (run L k) (arN n.op)) (by rw [hpS_len, List.length_drop, ← HM.out]; have := HAa.out; omega) (by have := HAa.out; omega) (by
          rcases HAo.out with ⟨q1, q2, q3⟩ | ⟨g, q1, _, _⟩
          · exact .inl ⟨q1, by rw [HM.out]; exact q2, q3⟩
          · exact .inr ⟨g, q1⟩))
        have HNs := (show Hid (N ≤ w6.heap.size) from HF.out.s.n.2.2)
        have HPs := (show Hid (∀ (w7 : World) (g3 cap3 : Nat), w7.ownsRow N 90 201 (.slice (some ⟨g3, 0, none⟩) (rr + 1) cap3) (rr + 1) (hpc (hpS E ((run L k).drop (arN n.op))) ++ hpV (pb, pf)) → ((w6.alloc (.cells (hpV (pb, pf)).toArray 90)).drew).grownBy w7 (Value.slice A rr cA).ownBlock → Hid (HoS w w7 (.slice (some ⟨b, o, none⟩) gs.length c) (.map (some mb)) (.slice Ak gs.length ck) gN N (k + 1) E L (.slice (some ⟨g3, 0, none⟩) (rr + 1) cap3))) from fun w7 g3 cap3 h1 h2 => by
          have hl : (run L (k + 1)).length = rr + 1 := by
            rw [run_succ, List.length_cons, List.length_drop, op_of HNn.out, ← HM.out]
            have := HAa.out
            omega
          refine HF.out.s.push (U.grow_alloc (grown_drew h2)) (fun q hq => ?_) ?_
          · rcases HAo.out with ⟨q1, _, _⟩ | ⟨g, q1, _, _⟩
            · rw [q1] at hq; cases hq
            · rw [q1] at hq ⊢; exact hq
          · rw [hl, run_succ, hpS_cons, pt_last, op_of HNn.out, hpc_app, hpc_one, ← HEk.out]
            exact h1)
        have hn1 : (hpV (pb, pf)).length = 1 * 201 := by rw [hpV_len]
        have hzs : (Value.agg (hpV hp0).toArray).cells.size = 201 := by kernel_rfl
        go_wp2_with fail
        go_region_law (refine step_append_lies _ (by rfl) _ _ _ (by rfl) N 90 i0 (.agg (hpV hp0).toArray) 201 201 Tryz.underlying84 hinf hz0 hz1 hz2 hzs (by omega) _ _ (hpc (hpS E ((run L k).drop (arN n.op)))) (by rfl) (T.own_drew (HO5.out.alloc _)) ⟨w6.heap.size, 0, none⟩ 1 1 (hpV (pb, pf)) (by rfl) hn1 (World.news_of_block (cs := (hpV (pb, pf)).toArray) (t := 90) (fr := (0, 0)) (heap_alloc_new w6 _)) (hpV_one _) (by omega) (by unfold maxLen; omega) (by omega) (by show N ≤ (w6.alloc _).heap.size; rw [World.size_alloc]; exact Nat.le_succ_of_le HNs.out) (w6.heap.size + 1) (by simp) ?_; intro g3 cap3 w7 hown hgrow hat hltg; have HP7 := HPs.out w7 g3 cap3 hown hgrow)
        all_goals
          clear hown hgrow hat hltg HPs HO5 p5 q5 p5d q5d HNs HF
          go_wp2_with fail
          go_roundw
          case rel => exact ⟨k + 1, by omega, by go_num, HP7⟩
          case measure => simp [intOf]; omega
    · obtain rfl : k = L.length := by omega
      obtain ⟨j, hj⟩ : ∃ j, L.length = j + 1 := ⟨L.length - 1, by have := HOne.out.2; omega⟩
      have hr : run L L.length = [pt L j] := by
        have h1 := HOne.out.1
        rw [hj, run_succ] at h1 ⊢
        rw [List.length_cons] at h1
        rw [List.eq_nil_of_length_eq_zero (by omega : ((run L j).drop (arN (T.opAt L j))).length = 0)]
      have ho := HW.out.o
      rw [hr] at ho
      have ho : wr.ownsRow N 90 201 u6 1 (hpc (hpS E [pt L j])) := ho
      obtain ⟨g, cA, rfl, hgl, _⟩ := ho.form (by show 0 < 1; omega)
      have hE : hpS E [pt L j] = [] ++ [E (L.length - 1)] := by rw [hpS_cons, pt_last, hj]; rfl
      rw [hE] at ho
      obtain ⟨g2, o2, e2, _, h3, h4⟩ := hp_read ho [] [E (L.length - 1)] rfl 0 _ rfl
      cases e2
      have h4 : wr.rangeAt g 1 (mkL (E (L.length - 1)).2) := h4
      have k1 : IsR2 wr g 1 := ⟨_, mkL_len _, h4⟩
      have v1 : ldR wr g 1 = .agg (mkA (E (L.length - 1)).2) := OkR.val ⟨mkL_len _, h4⟩
      obtain ⟨f, hf⟩ : ∃ f, f = (E (L.length - 1)).2 := ⟨_, rfl⟩
      have HB := (show Hid (Below w.heap.size w wr) from HW.out.b)
      have HEn := (show Hid ((List.range 200).filter f = hdl gs.length (hdM gs (nbE now)) r) from by rw [hf]; exact HEnd.out)
      have HNb := (show Hid (∀ _ : Unit, Calls Tryz.prog 43 #[.agg (mkA f)] wr fun e w' => (∃ v, e = .returned v ∧ w'.ownsRow wr.heap.size 3 1 v ((List.range 200).filter f).length (((List.range 200).filter f).map U.nI)) ∧ Below wr.heap.size wr w') from fun _ => numbers_any f wr)
      rw [← hf] at v1
      clear ho hE hgl h3 h4 hf HW hr hj HSt HEnd HBe HCl HG HLb HE1s HOne
      have z5 : (0 : Int) < 1 := by omega
      go_wp2_with fail
      refine (HNb.out ()).mono ?_
      rintro e w8 ⟨⟨v8, rfl, ho8⟩, b8⟩
      have HF8 := (show Hid (w8.ownsRow w.heap.size 3 1 v8 (hdl gs.length (hdM gs (nbE now)) r).length ((hdl gs.length (hdM gs (nbE now)) r).map U.nI) ∧ Below w.heap.size w w8) from by
        rw [HEn.out] at ho8
        exact ⟨U.own_base ho8 HB.out.size, HB.out.trans (b8.mono HB.out.size)⟩)
      clear ho8 b8 HNb HEn HB k1 v1
      go_wp2_with fail
      go_ret
      exact ⟨⟨_, rfl, HF8.out.1⟩, HF8.out.2⟩
end Go.Proofs.YtbipjdgholdhcabGreat.N

namespace Go.Proofs.YtbipjdgholdhcabGreat.N
open Go.RowKit Go.Maps
open Go.Proofs.YtbipjdgholdhcabGreat.T

open U (below_grown own_get own_slice TT)
theorem Tryz.infoIs : (Tryz.prog.info? 29).map (fun i => (i.zero, i.size, i.bytes)) = some (some (.slice none 0 0), 1, 24) := by kernel_rfl
/-- Rows of rules' heads. -/
def hdT (n : Nat) (c : Mx) (k : Nat) : List (List Value) := (List.range k).map fun i => (hdl n c i).map U.nI
theorem hdT_succ (n : Nat) (c : Mx) (k : Nat) : hdT n c (k + 1) = hdT n c k ++ [(hdl n c k).map U.nI] := by unfold hdT; rw [List.range_succ, List.map_append]; rfl
structure HsS (w wr : World) (r m kv : Value) (n : Nat) (cx : Mx) (N k : Nat) (v : Value) : Prop where
  b : Below w.heap.size w wr
  x : VX wr w.heap.size r m kv
  t : ∃ xs, xs.length = k ∧ TT wr N 29 3 v (hdT n cx k) xs
  n : w.heap.size + 1 ≤ N ∧ N ≤ wr.heap.size
theorem HsS.later {w wr w2 : World} {r m kv : Value} {n : Nat} {cx : Mx} {N k : Nat} {v : Value} (h : HsS w wr r m kv n cx N k v) (hb : Below wr.heap.size wr w2) : HsS w w2 r m kv n cx N k v := by
  obtain ⟨xs, h1, h2⟩ := h.t
  exact ⟨h.b.trans (hb.mono h.b.size), h.x.below hb, ⟨xs, h1, h2.below hb⟩, h.n.1, Nat.le_trans h.n.2 hb.size⟩
set_option maxRecDepth 100000 in
set_option maxHeartbeats 16000000 in
theorem vheads_any {gs : GL} {now : List Em} (mb : Nat) (A Ak : Option Addr) (c ck : Nat) (w : World) (hv : VwO w gs A mb Ak now) :
    Calls Tryz.prog 36 #[.agg #[.slice A gs.length c, .map (some mb), .slice Ak gs.length ck]] w fun e w' => (∃ v xs, e = .returned v ∧ xs.length = gs.length ∧ TT w' w.heap.size 29 3 v (hdT gs.length (hdM gs (nbE now)) gs.length) xs) ∧ Below w.heap.size w w' := by
  have hn2 := hv.R.n2
  obtain ⟨w1, hw1⟩ : ∃ w1, w1 = w.alloc (.cells #[.slice A gs.length c, .map (some mb), .slice Ak gs.length ck] 66) := ⟨_, rfl⟩
  have HE1 := (show Hid (w.alloc (.cells #[.slice A gs.length c, .map (some mb), .slice Ak gs.length ck] 66) = w1) from hw1.symm)
  have hb1 : Below w.heap.size w w1 := by rw [hw1]; exact below_box _ _
  have hs1 : w1.heap.size = w.heap.size + 1 := by rw [hw1, World.size_alloc]
  have hx1 : VX w1 w.heap.size (.slice A gs.length c) (.map (some mb)) (.slice Ak gs.length ck) := by rw [hw1]; exact VX.new w _ _ _
  have HS := (show Hid (HsS w w1 (.slice A gs.length c) (.map (some mb)) (.slice Ak gs.length ck) gs.length (hdM gs (nbE now)) (w.heap.size + 1) 0 (.slice none 0 0)) from ⟨hb1, hx1, ⟨[], rfl, TT.nil _ _ _ _⟩, Nat.le_refl _, by omega⟩)
  have HV := (show Hid (VwO w gs A mb Ak now) from hv)
  have y0 : w1.cell? ⟨w.heap.size, 0, none⟩ = _ := hx1.c0
  clear hw1 hb1 hs1 hx1 hv
  go_enter Tryz.func36, Tryz.ntmps36
  go_wp2_with (rw [HE1.out])
  clear HE1 y0
  go_loopw [3, 8] (fun v t wr => ∃ (k : Nat), k ≤ gs.length ∧ t = .int .i64 (k : Int) ∧ Hid (HsS w wr (.slice A gs.length c) (.map (some mb)) (.slice Ak gs.length ck) gs.length (hdM gs (nbE now)) (w.heap.size + 1) k v)) (fun _ t _ => gs.length - (intOf t).toNat)
  case atStart => exact ⟨0, Nat.zero_le _, by go_num, HS⟩
  case round =>
    obtain ⟨k, hk, rfl, HW⟩ := hrel
    clear HS
    by_cases hlt : k < gs.length
    · obtain ⟨⟨gn, L⟩, hg⟩ : ∃ g, gs[k]? = some g := ⟨_, List.getElem?_eq_getElem hlt⟩
      have y0 := HW.out.x.c0
      have y1 := HW.out.x.c1
      have y2 := HW.out.x.c2
      have HH := (show Hid (∀ _ : Unit, Calls Tryz.prog 24 #[.agg #[.slice A gs.length c, .map (some mb), .slice Ak gs.length ck], .int .i64 (k : Int)] wr fun e w' => (∃ v, e = .returned v ∧ w'.ownsRow wr.heap.size 3 1 v (hdl gs.length (hdM gs (nbE now)) k).length ((hdl gs.length (hdM gs (nbE now)) k).map U.nI)) ∧ Below wr.heap.size wr w') from fun _ => headsOf_any mb A Ak c ck hg wr (HV.out.later HW.out.b))
      clear hg
      go_wp2_with fail
      refine (HH.out ()).mono ?_
      rintro e w4 ⟨⟨y, rfl, hy⟩, b4⟩
      obtain ⟨xs, hxl, hT⟩ := HW.out.t
      obtain ⟨A3, c3, hA3⟩ := own_slice hT.o
      have HW4 := (show Hid (HsS w w4 (.slice A gs.length c) (.map (some mb)) (.slice Ak gs.length ck) gs.length (hdM gs (nbE now)) (w.heap.size + 1) k u3) from HW.out.later b4)
      have HO4 := (show Hid (w4.ownsRow (w.heap.size + 1) 29 1 u3 k xs) from by rw [← hxl]; exact U.own_below hT.o b4)
      have HN4 := (show Hid (w.heap.size + 1 ≤ w4.heap.size) from HW4.out.n.2)
      have HPu := (show Hid (∀ (g5 cap5 : Nat) (w5 : World), w5.ownsRow (w.heap.size + 1) 29 1 (.slice (some ⟨g5, 0, none⟩) (k + 1) cap5) (k + 1) (xs ++ [y]) → w4.grownBy w5 u3.ownBlock → (u3.ownBlock = some g5 ∨ g5 = w4.heap.size + 1) → HsS w w5 (.slice A gs.length c) (.map (some mb)) (.slice Ak gs.length ck) gs.length (hdM gs (nbE now)) (w.heap.size + 1) (k + 1) (.slice (some ⟨g5, 0, none⟩) (k + 1) cap5)) from fun g5 cap5 w5 h1 h2 h3 => by
        have hT4 := hT.below b4
        have hn := HW.out.n
        have hlow : ∀ q, u3.ownBlock = some q → w.heap.size + 1 ≤ q := fun q hq => (hT.o.lt q hq).1
        refine ⟨below_grown HW4.out.b h2 (fun q e => by have := hlow q e; omega), HW4.out.x.same (h2.block _ HW4.out.x.lt (fun e => by have := hlow _ e.symm; omega)), ⟨xs ++ [y], by rw [List.length_append, hxl]; rfl, ?_⟩, hn.1, Nat.le_trans HW4.out.n.2 h2.size⟩
        rw [hdT_succ]
        refine hT4.push (by rw [List.length_map]; exact U.own_base hy hn.2) (fun q hq => hT.new (hy.lt q hq).1) (by rw [hxl]; exact h1) h2 (fun q hq => ?_)
        cases hq
        rcases h3 with e | e
        · exact .inl e
        · refine .inr ?_
          show w4.heap.size ≤ g5
          omega)
      have o1 : y.oneCell' = true := by
        obtain ⟨Ay, cy, rfl⟩ := own_slice hy
        rfl
      obtain ⟨Ay, cy, hAy⟩ := own_slice hy
      generalize (hdl gs.length (hdM gs (nbE now)) k).length = ly at hAy
      subst hA3
      subst hAy
      clear hy b4 hT HW HH y0 y1 y2 hxl
      go_wp2_with (at_builtin; refine U.wpList_app1 rfl _ _ 59 rfl (.slice none 0 0) 24 Tryz.underlying59 Tryz.infoIs rfl (w.heap.size + 1) k _ _ rfl rfl HO4.out rfl (by omega) (by decide) HN4.out ?_; intro g5 cap5 w5 ho5 hg5 hat5 hl5; have HV5 := hid_of (HPu.out g5 cap5 w5 ho5 hg5 hat5); clear ho5 hg5 hat5 hl5 HPu HO4 HN4)
      go_roundw
      case rel => exact ⟨k + 1, by omega, by go_num, HV5⟩
      case measure => simp [intOf]; omega
    · obtain rfl : k = gs.length := by omega
      obtain ⟨xs, hxl, hT⟩ := HW.out.t
      have HO := (show Hid (TT wr w.heap.size 29 3 u3 (hdT gs.length (hdM gs (nbE now)) gs.length) xs ∧ xs.length = gs.length ∧ Below w.heap.size w wr) from ⟨hT.base (Nat.le_succ _), hxl, HW.out.b⟩)
      clear hT hxl HW HV
      go_wp2_with fail
      go_ret
      exact ⟨⟨_, xs, rfl, HO.out.2.1, HO.out.1⟩, HO.out.2.2⟩
end Go.Proofs.YtbipjdgholdhcabGreat.N

namespace Go.Proofs.YtbipjdgholdhcabGreat.N
open Go.RowKit Go.Maps
open Go.Proofs.YtbipjdgholdhcabGreat.T

open U (below_grown own_get own_slice)
/-- Numbers, 200 of them, in a box. -/
def aiL (f : Nat → Nat) : List Value := (List.range 200).map fun q => .int .i64 (f q : Int)
def aiA (f : Nat → Nat) : Array Value := (aiL f).toArray
theorem aiA_size (f : Nat → Nat) : (aiA f).size = 200 := by unfold aiA aiL; rw [List.size_toArray, List.length_map, List.length_range]
theorem aiA_get (f : Nat → Nat) {q : Nat} (h : q < 200) : (aiA f)[q]? = some (.int .i64 (f q : Int)) := by
  unfold aiA aiL
  rw [List.getElem?_toArray, List.getElem?_map, List.getElem?_range h]
  rfl
theorem Tryz.zeros116 : (Tryz.prog.info? 120).map (fun i => (i.zero, i.size)) = some (some (.agg (aiA fun _ => 0)), 200) := by kernel_rfl
theorem zero_ai (w : World) : (zeroValue 120).run Tryz.prog w = .ok (.agg (aiA fun _ => 0)) w := (zero_of_info Tryz.zeros116).1 w
structure IX (W : World) (b : Nat) (f : Nat → Nat) : Prop where
  heap : W.heap[b]? = some (.cells (aiA f) 120 (0, 0))
theorem IX.lt {W : World} {b : Nat} {f : Nat → Nat} (h : IX W b f) : b < W.heap.size := (Array.getElem?_eq_some_iff.1 h.heap).1
theorem IX.same {W W' : World} {b : Nat} {f : Nat → Nat} (h : IX W b f) (hb : W'.heap[b]? = W.heap[b]?) : IX W' b f := ⟨hb.trans h.heap⟩
theorem IX.below {W W' : World} {b : Nat} {f : Nat → Nat} (h : IX W b f) (hb : Below W.heap.size W W') : IX W' b f := h.same (hb.block b h.lt)
theorem IX.cl {W : World} {b : Nat} {f : Nat → Nat} (h : IX W b f) {q : Nat} (hq : q < 200) : W.cell? ⟨b, q, none⟩ = some (.int .i64 (f q : Int)) := by rw [cell_of_row W b q _ 120 (0, 0) h.heap, aiA_get f hq]
theorem IX.fz {W : World} {b : Nat} {f : Nat → Nat} (h : IX W b f) (q : Nat) : W.frozen? ⟨b, q, none⟩ = false := frozen_of_row W b q _ 120 h.heap
theorem IX.set {W : World} {b r : Nat} {f : Nat → Nat} (h : IX W b f) (v : Nat) : IX (W.setCell ⟨b, r, none⟩ (.int .i64 (v : Int))) b (fun q => if q = r then v else f q) := ⟨by
  rw [heap_setCell_same _ b r _ 120 _ h.heap]
  congr 2
  apply Array.ext_getElem?
  intro q
  rw [Array.getElem?_setIfInBounds]
  by_cases hq : q < 200
  · rw [aiA_get (fun q => if q = r then v else f q) hq]
    by_cases e : r = q
    · subst e
      rw [if_pos rfl, if_pos (by rw [aiA_size]; exact hq), if_pos rfl]
    · rw [if_neg e, aiA_get f hq, if_neg (Ne.symm e)]
  · rw [Array.getElem?_eq_none (xs := aiA (fun q => if q = r then v else f q)) (by rw [aiA_size]; omega)]
    split
    · split
      · next h1 h2 => rw [aiA_size] at h2; omega
      · rfl
    · rw [Array.getElem?_eq_none (by rw [aiA_size]; omega)]⟩
/-- Lists of numbers, read through a slice of slices. -/
def RdL (W : World) (A : Option Addr) (M : List (List Nat)) : Prop := ∀ (i : Nat) l, M[i]? = some l → ∃ b o A2 c2, A = some ⟨b, o, none⟩ ∧ b < W.heap.size ∧ W.cell? ⟨b, o + i, none⟩ = some (.slice A2 l.length c2) ∧ ∀ (q x : Nat), l[q]? = some x → ∃ g2 o2, A2 = some ⟨g2, o2, none⟩ ∧ g2 < W.heap.size ∧ W.cell? ⟨g2, o2 + q, none⟩ = some (.int .i64 (x : Int))
theorem RdL.later {W W' : World} {A : Option Addr} {M : List (List Nat)} (h : RdL W A M) (hb : Below W.heap.size W W') : RdL W' A M := fun i l hl => by
  obtain ⟨b, o, A2, c2, h1, h2, h3, h4⟩ := h i l hl
  refine ⟨b, o, A2, c2, h1, Nat.lt_of_lt_of_le h2 hb.size, (hb.cell (p := ⟨b, o + i, none⟩) h2).trans h3, fun q x hq => ?_⟩
  obtain ⟨g2, o2, k1, k2, k3⟩ := h4 q x hq
  exact ⟨g2, o2, k1, Nat.lt_of_lt_of_le k2 hb.size, (hb.cell (p := ⟨g2, o2 + q, none⟩) k2).trans k3⟩
structure WbS (w wr : World) (come : List Nat) (isC : Nat → Bool) (ah : Nat → Nat) (v : Value) : Prop where
  b : Below w.heap.size w wr
  m : MX wr w.heap.size isC
  i : IX wr (w.heap.size + 1) ah
  o : wr.ownsRow (w.heap.size + 2) 3 1 v come.length (come.map U.nI)
  n : w.heap.size + 2 ≤ wr.heap.size
theorem WbS.mark {w wr : World} {come : List Nat} {isC : Nat → Bool} {ah : Nat → Nat} {v : Value} (h : WbS w wr come isC ah v) (k y : Nat) : WbS w ((wr.setCell ⟨w.heap.size, k, none⟩ (.bool true)).setCell ⟨w.heap.size + 1, k, none⟩ (.int .i64 (y : Int))) come (fun x => if x = k then true else isC x) (fun x => if x = k then y else ah x) v := by
  have hlow : ∀ q, v.ownBlock = some q → w.heap.size + 2 ≤ q := fun q hq => (h.o.lt q hq).1
  have key : ∀ j, j ≠ w.heap.size → j ≠ w.heap.size + 1 → ((wr.setCell ⟨w.heap.size, k, none⟩ (.bool true)).setCell ⟨w.heap.size + 1, k, none⟩ (.int .i64 (y : Int))).heap[j]? = wr.heap[j]? := fun j h1 h2 => (heap_setCell_other _ ⟨w.heap.size + 1, k, none⟩ j _ h2).trans (heap_setCell_other _ ⟨w.heap.size, k, none⟩ j _ h1)
  refine ⟨(h.b.setCell (p := ⟨w.heap.size, k, none⟩) (Nat.le_refl _) _).setCell (p := ⟨w.heap.size + 1, k, none⟩) (Nat.le_succ _) _, ?_, ?_, own_same h.o (fun q hq => key q (by have := hlow q hq; omega) (by have := hlow q hq; omega)), by rw [World.size_setCell, World.size_setCell]; exact h.n⟩
  · exact (h.m.set true).same (heap_setCell_other _ ⟨w.heap.size + 1, k, none⟩ _ _ (show w.heap.size ≠ w.heap.size + 1 by omega))
  · exact (h.i.same (heap_setCell_other _ ⟨w.heap.size, k, none⟩ _ _ (show w.heap.size + 1 ≠ w.heap.size by omega))).set y
theorem WbS.push {w wr w2 : World} {come : List Nat} {isC : Nat → Bool} {ah : Nat → Nat} {v v2 : Value} {k : Nat} (h : WbS w wr come isC ah v) (ho : w2.ownsRow (w.heap.size + 2) 3 1 v2 (come.length + 1) (come.map U.nI ++ [.int .i64 (k : Int)])) (hg : wr.grownBy w2 v.ownBlock) : WbS w w2 (come ++ [k]) isC ah v2 := by
  have hlow : ∀ q, v.ownBlock = some q → w.heap.size + 2 ≤ q := fun q hq => (h.o.lt q hq).1
  have hn := h.n
  refine ⟨below_grown h.b hg (fun q e => by have := hlow q e; omega), h.m.same (hg.block _ h.m.lt (fun e => by have := hlow _ e.symm; omega)), h.i.same (hg.block _ h.i.lt (fun e => by have := hlow _ e.symm; omega)), ?_, Nat.le_trans hn hg.size⟩
  rw [List.length_append, List.map_append]
  exact ho
/-- The way, as far as it is told: back from its end. -/
structure WkS (w wr : World) (ah : Nat → Nat) (l : List Nat) (v : Value) : Prop where
  b : Below w.heap.size w wr
  i : IX wr (w.heap.size + 1) ah
  o : wr.ownsRow (w.heap.size + 2) 3 1 v l.length (l.map U.nI)
  n : w.heap.size + 2 ≤ wr.heap.size
theorem WkS.push {w wr w2 : World} {l : List Nat} {ah : Nat → Nat} {v v2 : Value} {k : Nat} (h : WkS w wr ah l v) (ho : w2.ownsRow (w.heap.size + 2) 3 1 v2 (l.length + 1) (l.map U.nI ++ [.int .i64 (k : Int)])) (hg : wr.grownBy w2 v.ownBlock) : WkS w w2 ah (l ++ [k]) v2 := by
  have hlow : ∀ q, v.ownBlock = some q → w.heap.size + 2 ≤ q := fun q hq => (h.o.lt q hq).1
  have hn := h.n
  refine ⟨below_grown h.b hg (fun q e => by have := hlow q e; omega), h.i.same (hg.block _ h.i.lt (fun e => by have := hlow _ e.symm; omega)), ?_, Nat.le_trans hn hg.size⟩
  rw [List.length_append, List.map_append]
  exact ho
theorem rev_drop {l : List Nat} {g x : Nat} (h : l[g]? = some x) : (l.drop g).reverse = (l.drop (g + 1)).reverse ++ [x] := by
  obtain ⟨hg, e⟩ := List.getElem?_eq_some_iff.1 h
  rw [List.drop_eq_getElem_cons hg, List.reverse_cons, e]

set_option maxRecDepth 100000 in
set_option maxHeartbeats 64000000 in
theorem wayBack_any {n : Nat} {cx : Mx} (hc : ∀ i j, cx i j = true → i < n ∧ j < n) (hn : n ≤ 200) {r : Nat} (hr : r < n) (A : Option Addr) (c : Nat) (w : World) (hp : RdL w A ((List.range n).map (hdl n cx))) :
    Calls Tryz.prog 54 #[.slice A n c, .int .i64 (r : Int)] w fun e w' => (∃ v l, e = .returned v ∧ WyB n cx r l ∧ w'.ownsRow w.heap.size 3 1 v l.length (l.map U.nI)) ∧ Below w.heap.size w w' := by
  have hv := zero_mk
  have hv2 := zero_ai
  obtain ⟨w1, hw1⟩ : ∃ w1, w1 = (w.alloc (.cells (mkA fun _ => false) 87)).alloc (.cells (aiA fun _ => 0) 120) := ⟨_, rfl⟩
  have HE1 := (show Hid ((w.alloc (.cells (mkA fun _ => false) 87)).alloc (.cells (aiA fun _ => 0) 120) = w1) from hw1.symm)
  obtain ⟨w2, hw2⟩ : ∃ w2, w2 = w1.alloc (.cells #[.int .i64 (r : Int)] 3) := ⟨_, rfl⟩
  have HE2 := (show Hid (w1.alloc (.cells #[.int .i64 (r : Int)] 3) = w2) from hw2.symm)
  have s0 := World.size_alloc w (.cells (mkA fun _ => false) 87)
  have s1 : w1.heap.size = w.heap.size + 2 := by rw [hw1, World.size_alloc, s0]
  have HS := (show Hid (WbS w w2 [r] (fun _ => false) (fun _ => 0) (.slice (some ⟨w.heap.size + 1 + 1, 0, none⟩) 1 1)) from by
    have hb1 : Below w.heap.size w w1 := by rw [hw1]; exact ((Below.refl _ _).alloc (Nat.le_refl _) _).alloc (by omega) _
    have hb2 : Below w1.heap.size w1 w2 := by rw [hw2]; exact below_box _ _
    have hm1 : MX w1 w.heap.size (fun _ => false) := by rw [hw1]; exact (MX.new w _).below (below_box _ _)
    have hi1 : IX w1 (w.heap.size + 1) (fun _ => 0) := by
      have h := heap_alloc_new (w.alloc (.cells (mkA fun _ => false) 87)) (.cells (aiA fun _ => 0) 120)
      rw [s0, ← hw1] at h
      exact ⟨h⟩
    refine ⟨hb1.trans (hb2.mono hb1.size), hm1.below hb2, hi1.below hb2, ?_, by have := hb2.size; omega⟩
    rw [show w.heap.size + 1 + 1 = w1.heap.size from s1.symm]
    refine ⟨rfl, .inr ⟨w1.heap.size, 1, #[.int .i64 (r : Int)], rfl, by omega, ?_, Nat.le_refl _, by unfold maxLen; omega, rfl, rfl⟩⟩
    rw [hw2]
    exact heap_alloc_new w1 _)
  have HB := (show Hid (BfI n cx r [r] [0] 0 0) from BfI.start hr)
  have HA := (show Hid (WbA r [r] [0] (fun _ => false) (fun _ => 0)) from WbA.start r)
  have HRd := (show Hid (RdL w A ((List.range n).map (hdl n cx))) from hp)
  have HC := (show Hid ((∀ i j, cx i j = true → i < n ∧ j < n) ∧ n ≤ 200 ∧ r < n) from ⟨hc, hn, hr⟩)
  have hne1 : w1.heap.size = w.heap.size + 1 + 1 := s1
  clear hw1 hw2 s0 s1 hc hp
  go_enter Tryz.func54, Tryz.ntmps54
  go_wp2_with (first | rw [HE1.out] | rw [HE2.out])
  go_step3
  go_wp2_with (first | rw [HE1.out] | rw [HE2.out])
  go_step3
  go_wp2_with (first | rw [HE1.out] | rw [HE2.out])
  clear HE1 HE2 hv hv2
  go_loopw [7, 8, 9] (fun v v8 t wr => ∃ (a nn : Nat) (come pi : List Nat) (isC : Nat → Bool) (ah : Nat → Nat) (A7 : Option Addr) (c7 : Nat), a ≤ nn ∧ nn ≤ 200 ∧ t = .int .i64 (a : Int) ∧ v = .slice A7 nn c7 ∧ v8 = .slice none 0 0 ∧ Hid (nn = come.length) ∧ Hid (BfI n cx r come pi a 0) ∧ Hid (WbA r come pi isC ah) ∧ Hid (WbS w wr come isC ah (.slice A7 nn c7))) (fun _ _ t _ => 201 - (intOf t).toNat)
  case atStart => exact ⟨0, 1, [r], [0], fun _ => false, fun _ => 0, some ⟨w.heap.size + 1 + 1, 0, none⟩, 1, by omega, by omega, by go_num, rfl, rfl, rfl, HB, HA, HS⟩
  case round =>
    obtain ⟨a, nn, come, pi, isC, ah, A7, c7, ha, hnn, rfl, rfl, rfl, HN, HBa, HAa, HW⟩ := hrel
    clear HS HB HA
    by_cases hlt : a < nn
    · obtain ⟨y, hy⟩ : ∃ y, come[a]? = some y := ⟨_, List.getElem?_eq_getElem (by rw [← HN.out]; exact hlt)⟩
      have hyn : y < n := HBa.out.lt y (List.mem_of_getElem? hy)
      obtain ⟨g7, e7, he7, _, hg7, x7, _⟩ := own_get HW.out.o (j := a) (x := U.nI y) (by rw [List.getElem?_map, hy]; rfl)
      have h7 : A7 = some ⟨g7, 0, none⟩ := by injection he7
      clear he7
      subst h7
      unfold U.nI at x7
      obtain ⟨b, o, A2, c2, rfl, lb, xb, hrow⟩ := HRd.out y (hdl n cx y) (by rw [List.getElem?_map, List.getElem?_range hyn]; rfl)
      have xb' := (HW.out.b.cell (p := ⟨b, o + y, none⟩) lb).trans xb
      obtain ⟨ln, hln⟩ : ∃ ln, ln = (hdl n cx y).length := ⟨_, rfl⟩
      have HLn := (show Hid (ln = (hdl n cx y).length ∧ ln ≤ 200) from ⟨hln, by rw [hln]; exact Nat.le_trans (hdl_len n cx y) hn⟩)
      rw [← hln] at xb'
      have HRow := (show Hid (∀ (q x : Nat), (hdl n cx y)[q]? = some x → ∃ g2 o2, A2 = some ⟨g2, o2, none⟩ ∧ g2 < w.heap.size ∧ w.cell? ⟨g2, o2 + q, none⟩ = some (.int .i64 (x : Int))) from hrow)
      have HY := (show Hid (come[a]? = some y) from hy)
      have HQ := (show Hid (BfQ n cx r come pi a y 0) from BfQ.start HBa.out hy)
      have z0 : (0 : Int) ≤ (a : Int) := by omega
      have z1 : (a : Int) < (nn : Int) := by omega
      have z2 : (0 : Int) ≤ (y : Int) := by omega
      have z3 : (y : Int) < (n : Int) := by omega
      clear hy hln xb hrow lb HBa hg7
      go_wp2_with fail
      clear x7 xb'
      obtain ⟨wC, hwC⟩ : ∃ wC, wC = wr := ⟨_, rfl⟩
      subst hwC
      go_loopw [7, 8, 29] (fun v v8 t wr => ∃ (q nn : Nat) (come pi : List Nat) (isC : Nat → Bool) (ah : Nat → Nat) (A7 : Option Addr) (c7 : Nat), q ≤ ln ∧ nn ≤ 200 ∧ t = .int .i64 (q : Int) ∧ v = .slice A7 nn c7 ∧ v8 = .slice none 0 0 ∧ a < nn ∧ Hid (nn = come.length) ∧ Hid (BfQ n cx r come pi a y q) ∧ Hid (WbA r come pi isC ah) ∧ Hid (WbS w wr come isC ah (.slice A7 nn c7))) (fun _ _ t _ => ln - (intOf t).toNat)
      case atStart => exact ⟨0, nn, come, pi, isC, ah, _, c7, Nat.zero_le _, hnn, by go_num, rfl, rfl, hlt, HN, HQ, HAa, HW⟩
      case round =>
        clear HQ HAa HW HN HY
        obtain ⟨q, n1, come1, pi1, isC1, ah1, A1, c1, hq, hn1, rfl, rfl, rfl, han, HN, HQ, HAa, HW⟩ := hrel
        by_cases hql : q < ln
        · obtain ⟨k, hk⟩ : ∃ k, (hdl n cx y)[q]? = some k := ⟨_, List.getElem?_eq_getElem (by rw [← HLn.out.1]; exact hql)⟩
          have hkn : k < n := (HC.out.1 y k ((hdl_mem HC.out.1).1 (List.mem_of_getElem? hk))).2
          obtain ⟨g2, o2, rfl, lg2, xk⟩ := HRow.out q k hk
          have xk' := (HW.out.b.cell (p := ⟨g2, o2 + q, none⟩) lg2).trans xk
          obtain ⟨g7, e7, he7, _, hg7, x7, _⟩ := own_get HW.out.o (j := a) (x := U.nI y) (by rw [List.getElem?_map, HQ.out.1]; rfl)
          have h7 : A1 = some ⟨g7, 0, none⟩ := by injection he7
          clear he7
          subst h7
          unfold U.nI at x7
          have z4 : (0 : Int) ≤ (q : Int) := by omega
          have z5 : (q : Int) < (ln : Int) := by omega
          have z6 : (0 : Int) ≤ (k : Int) := by omega
          have z7 : (k : Int) < 200 := by omega
          have z8 : (a : Int) < (n1 : Int) := by omega
          have hl2 : ln ≤ 200 := HLn.out.2
          by_cases hkr : k = r
          · subst hkr
            have HPt := (show Hid (∃ m l, Ds cx k m k ∧ PtI cx k m l ∧ 0 < m ∧ m ≤ n ∧ l[m - 1]? = some y ∧ ∀ (i x z : Nat), l[i]? = some x → l[i + 1]? = some z → z ≠ k ∧ z < n ∧ ah1 z = x) from by
              obtain ⟨hy1, b0, hb0, hx0⟩ := HQ.out
              have hck : cx y k = true := (hdl_mem HC.out.1).1 (List.mem_of_getElem? hk)
              have hrc : ∃ t, Ds cx k t k := by
                rcases hb0.reach HC.out.1 (a + 1) a y (by omega) hy1 with e | e
                · rw [e] at hck; exact Ds.of_rc (n := n) (Rc.of hck)
                · exact Ds.of_rc (Rc.trans (HC.out.1 y k hck).1 e (Rc.of hck))
              obtain ⟨m, hd⟩ := hrc
              obtain ⟨l, hl⟩ := PtI.ex hd
              obtain ⟨h1, h2⟩ := HAa.out.back hb0 hy1 hck hd hl
              exact ⟨m, l, hd, hl, hd.1, hd.few HC.out.1, h1, h2⟩)
            obtain ⟨m, l, hd, hl, hm0, hmn, hly, hback⟩ := HPt.out
            have HL := (show Hid (l.length = m ∧ l[0]? = some k ∧ l[m - 1]? = some y ∧ (∀ (i x z : Nat), l[i]? = some x → l[i + 1]? = some z → z ≠ k ∧ z < n ∧ ah1 z = x) ∧ WyB n cx k l ∧ m ≤ 200) from ⟨hl.n, hl.h, hly, hback, .inr ⟨m, hd, hl⟩, by omega⟩)
            have HNs := (show Hid (w.heap.size + 2 ≤ wr.heap.size) from HW.out.n)
            have HW9 := (show Hid (∀ (g9 cap9 : Nat) (w9 : World), w9.ownsRow (w.heap.size + 2) 3 1 (.slice (some ⟨g9, 0, none⟩) 1 cap9) 1 ([] ++ [.int .i64 (y : Int)]) → wr.grownBy w9 (Value.slice none 0 0).ownBlock → Hid (WkS w w9 ah1 ((l.drop (m - 1)).reverse) (.slice (some ⟨g9, 0, none⟩) 1 cap9)) ∧ w9.cell? ⟨g9, 0, none⟩ = some (.int .i64 (y : Int))) from fun g9 cap9 w9 h1 h2 => by
              have hz : (l.drop (m - 1)).reverse = [y] := by
                rw [rev_drop HL.out.2.2.1, show m - 1 + 1 = l.length from by rw [HL.out.1]; omega, List.drop_length]
                rfl
              refine ⟨?_, (h1.cells (g := g9) rfl 0 _ rfl)⟩
              show WkS _ _ _ _ _
              rw [hz]
              exact ⟨below_grown HW.out.b h2 (fun q e => by cases e), HW.out.i.same (h2.block _ HW.out.i.lt (fun e => by cases e)), h1, Nat.le_trans HW.out.n h2.size⟩)
            clear hd hl hm0 hmn hly hback HPt HAa HQ HRow HRd hk xk lg2 hg7 HW HLn HN
            go_wp2_with (at_builtin; refine U.wpList_app1 rfl _ _ 29 rfl (.int .i64 0) 8 Tryz.underlying29 Tryz.info3 rfl (w.heap.size + 2) 0 _ [] rfl rfl (World.ownsRow_nil _ _ _ _) rfl (by omega) (by decide) HNs.out ?_; intro g9 cap9 w9 ho9 hg9 hat9 hl9; obtain ⟨HV9, x9⟩ := HW9.out g9 cap9 w9 ho9 hg9; clear ho9 hg9 hat9 hl9 HW9 HNs x7 xk')
            try clear x9
            have HG0 := (show Hid (l[m - 1]? = some y ∧ 1 = m - (m - 1)) from ⟨HL.out.2.2.1, by
              have := (List.getElem?_eq_some_iff.1 HL.out.2.2.1).1
              have := HL.out.1
              omega⟩)
            go_loopg [8, 12] (m - 1) (fun g v t wr => ∃ (x n8 : Nat) (A8 : Option Addr) (c8 : Nat), t = .int .i64 (x : Int) ∧ v = .slice A8 n8 c8 ∧ n8 ≤ 200 ∧ Hid (l[g]? = some x ∧ n8 = m - g) ∧ Hid (WkS w wr ah1 ((l.drop g).reverse) (.slice A8 n8 c8)))
            case atStart => exact ⟨y, 1, some ⟨g9, 0, none⟩, cap9, by go_num, rfl, by omega, HG0, HV9⟩
            case round =>
              clear HV9 HG0
              obtain ⟨x, n8, A8, c8, rfl, rfl, hn8, HG, HK⟩ := hrel
              cases gk with
              | zero =>
                have hxk : x = k := by
                  have h := HG.out.1
                  rw [HL.out.2.1] at h
                  exact (Option.some.inj h).symm
                subst hxk
                have HRv := (show Hid (∀ _ : Unit, Calls Tryz.prog 69 #[.slice A8 n8 c8] wr fun e w' => e = .returned (.tuple #[]) ∧ w'.ownsRow (w.heap.size + 2) 3 1 (.slice A8 n8 c8) n8 (l.map U.nI) ∧ wr.grownBy w' (Value.slice A8 n8 c8).ownBlock) from fun _ => by
                  have h := HK.out.o
                  rw [List.drop_zero] at h
                  have hl8 : n8 = l.reverse.length := by rw [List.length_reverse, HL.out.1]; have := HG.out.2; omega
                  rw [← hl8] at h
                  have h2 := reverse_any hl8 (by rw [List.length_reverse, HL.out.1]; have := HL.out.2.2.2.2.2; omega) h
                  rw [List.reverse_reverse] at h2
                  exact h2)
                have HEnd := (show Hid (∀ w', w'.ownsRow (w.heap.size + 2) 3 1 (.slice A8 n8 c8) n8 (l.map U.nI) → wr.grownBy w' (Value.slice A8 n8 c8).ownBlock → w'.ownsRow w.heap.size 3 1 (.slice A8 n8 c8) l.length (l.map U.nI) ∧ Below w.heap.size w w') from fun w' h1 h2 => by
                  have hl8 : n8 = l.length := by rw [HL.out.1]; have := HG.out.2; omega
                  have hlow : ∀ q, (Value.slice A8 n8 c8).ownBlock = some q → w.heap.size + 2 ≤ q := fun q hq => (h1.lt q hq).1
                  refine ⟨by have h := U.own_base h1 (by omega : w.heap.size ≤ w.heap.size + 2); rw [hl8] at h ⊢; exact h, below_grown HK.out.b h2 (fun q e => by have := hlow q e; omega)⟩)
                clear HK HG
                go_wp2_with fail
                refine (HRv.out ()).mono ?_
                rintro e w8 ⟨rfl, ho8, hg8⟩
                have HZ := hid_of (HEnd.out w8 ho8 hg8)
                have HWy := (show Hid (WyB n cx x l) from HL.out.2.2.2.2.1)
                clear ho8 hg8 HEnd HRv HL
                go_wp2_with fail
                unfold Exit.noGoto
                go_ret
                exact ⟨⟨_, l, rfl, HWy.out, HZ.out.1⟩, HZ.out.2⟩
              | succ g =>
                obtain ⟨x0, hx0⟩ : ∃ x0, l[g]? = some x0 := ⟨_, List.getElem?_eq_getElem (by have := (List.getElem?_eq_some_iff.1 HG.out.1).1; omega)⟩
                obtain ⟨hxk, hxn, hax⟩ := HL.out.2.2.2.1 g x0 x hx0 HG.out.1
                have tx : ((x : Int) != (k : Int)) = true := by rw [bne, beq_eq_false_iff_ne.2 (by omega)]; rfl
                have i0 := HK.out.i.cl (show x < 200 by have := HC.out.2.1; omega)
                rw [hax] at i0
                have z20 : (0 : Int) ≤ (x : Int) := by omega
                have z21 : (x : Int) < 200 := by have := HC.out.2.1; omega
                have HO8 := (show Hid (wr.ownsRow (w.heap.size + 2) 3 1 (.slice A8 n8 c8) n8 (((l.drop (g + 1)).reverse).map U.nI)) from by
                  have h := HK.out.o
                  have e : (l.drop (g + 1)).reverse.length = n8 := by rw [List.length_reverse, List.length_drop, HL.out.1]; exact HG.out.2.symm
                  rw [e] at h
                  exact h)
                have HN8 := (show Hid (w.heap.size + 2 ≤ wr.heap.size) from HK.out.n)
                have HPu := (show Hid (∀ (g9 cap9 : Nat) (w9 : World), w9.ownsRow (w.heap.size + 2) 3 1 (.slice (some ⟨g9, 0, none⟩) (n8 + 1) cap9) (n8 + 1) (((l.drop (g + 1)).reverse).map U.nI ++ [.int .i64 (x0 : Int)]) → wr.grownBy w9 (Value.slice A8 n8 c8).ownBlock → Hid (WkS w w9 ah1 ((l.drop g).reverse) (.slice (some ⟨g9, 0, none⟩) (n8 + 1) cap9))) from fun g9 cap9 w9 h1 h2 => by
                  have e : (l.drop (g + 1)).reverse.length = n8 := by rw [List.length_reverse, List.length_drop, HL.out.1]; exact HG.out.2.symm
                  show WkS _ _ _ _ _
                  rw [rev_drop hx0]
                  exact HK.out.push (by rw [e]; exact h1) h2)
                have HG2 := (show Hid (l[g]? = some x0 ∧ n8 + 1 = m - g) from ⟨hx0, by
                  have h1 := (List.getElem?_eq_some_iff.1 HG.out.1).1
                  have h2 := HL.out.1
                  have h3 := HG.out.2
                  omega⟩)
                have hn9 : n8 + 1 ≤ 200 := by have h3 := HG2.out.2; have h4 := HL.out.2.2.2.2.2; omega
                clear hx0 hxk hxn hax HK HG
                go_wp2_with (at_builtin; refine U.wpList_app1 rfl _ _ 29 rfl (.int .i64 0) 8 Tryz.underlying29 Tryz.info3 rfl (w.heap.size + 2) n8 _ _ rfl rfl HO8.out rfl (by omega) (by decide) HN8.out ?_; intro g9 cap9 w9 ho9 hg9 hat9 hl9; have HV9 := HPu.out g9 cap9 w9 ho9 hg9; clear ho9 hg9 hat9 hl9 HPu HO8 HN8 i0 tx)
                go_roundg g
                case measure => omega
                case rel => exact ⟨x0, n8 + 1, some ⟨g9, 0, none⟩, cap9, by go_num, rfl, hn9, HG2, HV9⟩
          · have hkr2 : ((k : Int) == (r : Int)) = false := by rw [beq_eq_false_iff_ne]; omega
            have m0 := HW.out.m.cl (show k < 200 by omega)
            cases hic : isC1 k with
            | true =>
              rw [hic] at m0
              have HQ2 := (show Hid (BfQ n cx r come1 pi1 a y (q + 1)) from HQ.out.old HC.out.1 hk hkr ((HAa.out.m k).1 hic).1)
              clear hk xk lg2 hkr hic HQ hg7 x7
              go_wp2_with fail
              go_roundw
              case rel => exact ⟨q + 1, n1, come1, pi1, isC1, ah1, _, c1, by omega, hn1, by go_num, rfl, rfl, han, HN, HQ2, HAa, HW⟩
              case measure => simp [intOf]; omega
            | false =>
              rw [hic] at m0
              have hkm : k ∉ come1 := fun e => by
                have := (HAa.out.m k).2 ⟨e, hkr⟩
                rw [hic] at this
                cases this
              have f0 := HW.out.m.fz k
              obtain ⟨w5, hw5⟩ : ∃ w5, w5 = wr.setCell ⟨w.heap.size, k, none⟩ (.bool true) := ⟨_, rfl⟩
              have HE5 := (show Hid (wr.setCell ⟨w.heap.size, k, none⟩ (.bool true) = w5) from hw5.symm)
              obtain ⟨w6, hw6⟩ : ∃ w6, w6 = w5.setCell ⟨w.heap.size + 1, k, none⟩ (.int .i64 (y : Int)) := ⟨_, rfl⟩
              have HE6 := (show Hid (w5.setCell ⟨w.heap.size + 1, k, none⟩ (.int .i64 (y : Int)) = w6) from hw6.symm)
              have hlow := (HW.out.o.lt g7 rfl).1
              have hi5 : IX w5 (w.heap.size + 1) ah1 := by rw [hw5]; exact HW.out.i.same (heap_setCell_other _ ⟨w.heap.size, k, none⟩ _ _ (show w.heap.size + 1 ≠ w.heap.size by omega))
              have i0 := hi5.cl (show k < 200 by omega)
              have f1 := hi5.fz k
              have x7' : w5.cell? ⟨g7, a, none⟩ = some (.int .i64 (y : Int)) := by
                rw [hw5, World.cell?_of_block (a := ⟨g7, a, none⟩) (heap_setCell_other _ ⟨w.heap.size, k, none⟩ g7 _ (show g7 ≠ w.heap.size by omega))]
                exact x7
              have HW6 := (show Hid (WbS w w6 come1 (fun x => if x = k then true else isC1 x) (fun x => if x = k then y else ah1 x) (.slice (some ⟨g7, 0, none⟩) n1 c1)) from by rw [hw6, hw5]; exact HW.out.mark k y)
              have HO6 := (show Hid (w6.ownsRow (w.heap.size + 2) 3 1 (.slice (some ⟨g7, 0, none⟩) n1 c1) n1 (come1.map U.nI)) from by have h := HW6.out.o; rw [← HN.out] at h; exact h)
              have HN6 := (show Hid (w.heap.size + 2 ≤ w6.heap.size) from HW6.out.n)
              have HPu := (show Hid (∀ (g9 cap9 : Nat) (w9 : World), w9.ownsRow (w.heap.size + 2) 3 1 (.slice (some ⟨g9, 0, none⟩) (n1 + 1) cap9) (n1 + 1) (come1.map U.nI ++ [.int .i64 (k : Int)]) → w6.grownBy w9 (Value.slice (some ⟨g7, 0, none⟩) n1 c1).ownBlock → Hid (WbS w w9 (come1 ++ [k]) (fun x => if x = k then true else isC1 x) (fun x => if x = k then y else ah1 x) (.slice (some ⟨g9, 0, none⟩) (n1 + 1) cap9))) from fun g9 cap9 w9 h1 h2 => HW6.out.push (by rw [← HN.out]; exact h1) h2)
              have HQ2 := (show Hid (BfQ n cx r (come1 ++ [k]) (pi1 ++ [a]) a y (q + 1)) from HQ.out.push HC.out.1 hk hkr hkm)
              have HA2 := (show Hid (WbA r (come1 ++ [k]) (pi1 ++ [a]) (fun x => if x = k then true else isC1 x) (fun x => if x = k then y else ah1 x)) from by
                obtain ⟨_, b0, hb0, _⟩ := HQ.out
                refine HAa.out.push hb0.lp (fun j i hj0 hi => ?_) HQ.out.1 hkm hkr
                obtain ⟨x, hx⟩ : ∃ x, come1[j]? = some x := ⟨_, List.getElem?_eq_getElem (by rw [← hb0.lp]; exact (List.getElem?_eq_some_iff.1 hi).1)⟩
                obtain ⟨i2, y2, p1, p2, _⟩ := hb0.p j x hj0 hx
                rw [hi] at p1
                cases p1
                have := (List.getElem?_eq_some_iff.1 hx).1
                omega)
              have HN2 := (show Hid (n1 + 1 = (come1 ++ [k]).length ∧ n1 + 1 ≤ 200) from by
                have e : (come1 ++ [k]).length = n1 + 1 := by rw [List.length_append, ← HN.out]; rfl
                obtain ⟨_, b0, hb0, _⟩ := HQ2.out
                have := hb0.few
                exact ⟨e.symm, by omega⟩)
              have HN3 := (show Hid (n1 + 1 = (come1 ++ [k]).length) from HN2.out.1)
              have hn2 : n1 + 1 ≤ 200 := HN2.out.2
              clear hk xk lg2 hkr hic HQ hg7 x7 hw5 hw6 hlow hi5 hkm HW HAa HW6 HN2
              go_wp2_with (first | rw [HE5.out] | rw [HE6.out] | (at_builtin; refine U.wpList_app1 rfl _ _ 29 rfl (.int .i64 0) 8 Tryz.underlying29 Tryz.info3 rfl (w.heap.size + 2) n1 _ _ rfl rfl HO6.out rfl (by omega) (by decide) HN6.out ?_; intro g9 cap9 w9 ho9 hg9 hat9 hl9; have HV9 := HPu.out g9 cap9 w9 ho9 hg9; clear ho9 hg9 hat9 hl9 HPu HO6 HN6 HE5 HE6 i0 f1 x7' f0 m0 xk'))
              go_roundw
              case rel => exact ⟨q + 1, n1 + 1, come1 ++ [k], pi1 ++ [a], _, _, _, cap9, by omega, hn2, by go_num, rfl, rfl, by omega, HN3, HQ2, HA2, HV9⟩
              case measure => simp [intOf]; omega
        · obtain rfl : q = ln := by omega
          have HBn := (show Hid (BfI n cx r come1 pi1 (a + 1) 0) from by
            have h := HQ.out
            rw [HLn.out.1] at h
            exact h.done HC.out.1)
          clear HQ HRow HLn
          go_wp2_with fail
          go_roundw
          case rel => exact ⟨a + 1, n1, come1, pi1, isC1, ah1, A1, c1, by omega, hn1, by go_num, rfl, rfl, HN, HBn, HAa, HW⟩
          case measure => simp [intOf]; omega
    · obtain rfl : a = nn := by omega
      have HNo := (show Hid (WyB n cx r []) from .inl ⟨rfl, by
        have h := HBa.out
        rw [HN.out] at h
        exact h.none HC.out.1⟩)
      have HBe := (show Hid (Below w.heap.size w wr) from HW.out.b)
      clear HW HAa HBa HN HRd HC
      go_wp2_with fail
      unfold Exit.noGoto
      go_ret
      exact ⟨⟨_, [], rfl, HNo.out, World.ownsRow_nil _ _ _ _⟩, HBe.out⟩
end Go.Proofs.YtbipjdgholdhcabGreat.N

namespace Go.Proofs.YtbipjdgholdhcabGreat.N
open Go.RowKit Go.Maps
open Go.Proofs.YtbipjdgholdhcabGreat.T

open U (below_grown own_get own_slice)
theorem WyB.len {n : Nat} {c : Mx} {r : Nat} {l : List Nat} (h : WyB n c r l) : (l.length = 0 ∧ ¬ Rc n c r r) ∨ (0 < l.length ∧ ∃ m, Ds c r m r ∧ PtI c r m l) := by
  rcases h with ⟨h1, h2⟩ | ⟨m, h1, h2⟩
  · exact .inl ⟨by rw [h1]; rfl, h2⟩
  · exact .inr ⟨by rw [h2.n]; exact h1.1, m, h1, h2⟩
set_option maxRecDepth 100000 in
set_option maxHeartbeats 16000000 in
theorem cycle_any {n : Nat} {cx : Mx} (hc : ∀ i j, cx i j = true → i < n ∧ j < n) (hn : n ≤ 200) (A : Option Addr) (c : Nat) (w : World) (hp : RdL w A ((List.range n).map (hdl n cx))) :
    Calls Tryz.prog 37 #[.slice A n c] w fun e w' => (∃ v l, e = .returned v ∧ CyR n cx l ∧ w'.ownsRow w.heap.size 3 1 v l.length (l.map U.nI)) ∧ Below w.heap.size w w' := by
  have HRd := (show Hid (RdL w A ((List.range n).map (hdl n cx))) from hp)
  have HC := (show Hid ((∀ i j, cx i j = true → i < n ∧ j < n) ∧ n ≤ 200) from ⟨hc, hn⟩)
  have HS := (show Hid (Below w.heap.size w w ∧ ∀ q, q < 0 → ¬ Rc n cx q q) from ⟨Below.refl _ _, fun q h => absurd h (Nat.not_lt_zero _)⟩)
  clear hp hc
  go_enter Tryz.func37, Tryz.ntmps37
  go_wp2_with fail
  go_loopw [7] (fun t wr => ∃ k : Nat, k ≤ n ∧ t = .int .i64 (k : Int) ∧ Hid (Below w.heap.size w wr ∧ ∀ q, q < k → ¬ Rc n cx q q)) (fun t _ => n - (intOf t).toNat)
  case atStart => exact ⟨0, Nat.zero_le _, by go_num, HS⟩
  case round =>
    obtain ⟨k, hk, rfl, HW⟩ := hrel
    clear HS
    by_cases hlt : k < n
    · have HWb := (show Hid (∀ _ : Unit, Calls Tryz.prog 54 #[.slice A n c, .int .i64 (k : Int)] wr fun e w' => (∃ v l, e = .returned v ∧ WyB n cx k l ∧ w'.ownsRow wr.heap.size 3 1 v l.length (l.map U.nI)) ∧ Below wr.heap.size wr w') from fun _ => wayBack_any HC.out.1 HC.out.2 hlt A c wr (HRd.out.later HW.out.1))
      go_wp2_with fail
      refine (HWb.out ()).mono ?_
      rintro e w2 ⟨⟨v, l, rfl, hw, ho⟩, b2⟩
      obtain ⟨A2, c2, rfl⟩ := own_slice ho
      have HB2 := (show Hid (Below w.heap.size w w2) from HW.out.1.trans (b2.mono HW.out.1.size))
      rcases hw.len with ⟨h1, h2⟩ | ⟨h1, h2⟩
      · have HN := (show Hid (Below w.heap.size w w2 ∧ ∀ q, q < k + 1 → ¬ Rc n cx q q) from ⟨HB2.out, fun q hq => by
          by_cases e : q = k
          · rw [e]; exact h2
          · exact HW.out.2 q (by omega)⟩)
        have hlz : (.slice A2 l.length c2 : Value) = .slice A2 0 c2 := by rw [h1]
        rw [hlz]
        clear hw ho b2 h2 HB2 HW HWb h1 hlz
        go_wp2_with fail
        go_roundw
        case rel => exact ⟨k + 1, by omega, by go_num, HN⟩
        case measure => simp [intOf]; omega
      · have HFin := (show Hid (CyR n cx l ∧ w2.ownsRow w.heap.size 3 1 (.slice A2 l.length c2) l.length (l.map U.nI) ∧ Below w.heap.size w w2) from ⟨.inr (by obtain ⟨m, q1, q2⟩ := h2; exact ⟨k, m, q1, HW.out.2, q2⟩), U.own_base ho HW.out.1.size, HB2.out⟩)
        obtain ⟨ln, hln⟩ : ∃ ln, ln = l.length := ⟨_, rfl⟩
        have HLn := (show Hid (ln = l.length) from hln)
        rw [← hln] at h1 ⊢
        have hl0 : (ln : Int) > 0 := by omega
        have hl1 : 0 < ln := h1
        clear hw ho b2 h2 HB2 HW HWb hln
        go_wp2_with fail
        go_ret
        exact ⟨⟨_, l, rfl, HFin.out.1, by rw [HLn.out]; exact HFin.out.2.1⟩, HFin.out.2.2⟩
    · obtain rfl : k = n := by omega
      have HFin := (show Hid (CyR k cx [] ∧ Below w.heap.size w wr) from ⟨.inl ⟨rfl, fun r q => by
        by_cases hr : r < k
        · exact HW.out.2 r hr q
        · have := Rc.least (d := fun i j => i < k ∧ j < k) HC.out.1 (fun _ _ _ _ a b => ⟨a.1, b.2⟩) q
          omega⟩, HW.out.1⟩)
      clear HW HC HRd
      go_wp2_with fail
      go_ret
      exact ⟨⟨_, [], rfl, HFin.out.1, World.ownsRow_nil _ _ _ _⟩, HFin.out.2⟩
end Go.Proofs.YtbipjdgholdhcabGreat.N
