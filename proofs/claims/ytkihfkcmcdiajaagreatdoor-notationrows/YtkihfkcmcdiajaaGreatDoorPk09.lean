/- DERIVED. Plain mathematics and walks, laid together (9). -/
import Derived.Test.YtkihfkcmcdiajaaGreatDoorPk08
namespace Go.Proofs.YtkihfkcmcdiajaaGreatDoor.R
open Go.RowKit
/-- The pattern of a list of shapes. -/
def patN (ss : List Shape) : List Nd := if ss.length = 0 then [(2, 0#256)] else ptTo ss ss.length
/-- What Pattern answers. -/
def PnV (w w' : World) (lo hi : Int) (e : Ending) : Prop :=
  if bdB lo = true ∧ bdB hi = true then
    (if lo ≤ hi then ∃ v, e = .returned (.tuple #[v, .int .i64 0]) ∧ w'.ownsRow w.heap.size 51 7 v (patN (shAll lo hi)).length (ndc (patN (shAll lo hi))) else e = .returned (.tuple #[.slice none 0 0, .int .i64 1]))
  else e = .returned (.tuple #[.slice none 0 0, .int .i64 30])
theorem grown_below {w w' : World} (h : w.grownBy w' none) : Below w.heap.size w w' := ⟨h.os, h.tape, h.output, h.size, fun k hk => h.block k hk (by simp)⟩
theorem own_node (w : World) (op : Int) : (w.alloc (.cells (ndZ op) 51)).ownsRow w.heap.size 51 7 (.slice (some ⟨w.heap.size, 0, none⟩) 1 1) 1 (ndc [(op, 0#256)]) := by
  rw [ndc_one, ← ndZ_eq]
  exact ⟨rfl, .inr ⟨w.heap.size, 1, ndZ op, rfl, Nat.le_refl _, heap_alloc_new w _, Nat.le_refl _, by unfold maxLen; omega, rfl, rfl⟩⟩
theorem ShV.err {w w' : World} {lo hi : Int} {e : Ending} (h : ShV w w' lo hi e) : (∃ c, e = .returned (.tuple #[.slice none 0 0, .int .i64 c]) ∧ c ≠ 0 ∧ ∀ w2 w3 e2, e2 = .returned (.tuple #[.slice none 0 0, .int .i64 c]) → PnV w2 w3 lo hi e2) ∨
    ((∃ v xs, e = .returned (.tuple #[v, .int .i64 0]) ∧ RR w' w.heap.size v (shAll lo hi) xs) ∧ ∀ w2 w3 e2, (∃ v, e2 = .returned (.tuple #[v, .int .i64 0]) ∧ w3.ownsRow w2.heap.size 51 7 v (patN (shAll lo hi)).length (ndc (patN (shAll lo hi)))) → PnV w2 w3 lo hi e2) := by
  unfold ShV at h
  split at h
  · next q =>
    split at h
    · next q2 => exact .inr ⟨h, fun _ _ _ h2 => by unfold PnV; rw [if_pos q, if_pos q2]; exact h2⟩
    · next q2 => exact .inl ⟨1, h, by omega, fun _ _ _ h2 => by unfold PnV; rw [if_pos q, if_neg q2]; exact h2⟩
  · next q => exact .inl ⟨30, h, by omega, fun _ _ _ h2 => by unfold PnV; rw [if_neg q]; exact h2⟩

set_option maxRecDepth 100000 in
set_option maxHeartbeats 8000000 in
theorem pattern_any (lo hi : Int) (w : World) (hv : VB w) : Calls Tryz.prog 191 #[.int .i64 lo, .int .i64 hi] w fun e w' => PnV w w' lo hi e ∧ Below w.heap.size w w' := by
  obtain ⟨i0, hinf, hz0, hz1, hz2⟩ := info_parts Tryz.info80
  have HS : Hid (Calls Tryz.prog 195 #[.int .i64 lo, .int .i64 hi] w fun e w' => ShV w w' lo hi e ∧ Below w.heap.size w w') := shapes_any lo hi w hv
  have HO := (show Hid _ from shAll_ord lo hi)
  have HLn := (show Hid _ from shTo_len lo hi 5)
  rw [shTo_all] at HLn
  clear hv
  go_enter Tryz.func191, Tryz.ntmps191
  go_wp2_with fail
  refine HS.out.mono ?_
  rintro e w1 ⟨hsh, hb1⟩
  have HB1 := (show Hid _ from hb1)
  clear hb1 HS
  rcases hsh.err with ⟨c, rfl, hc, hP⟩ | ⟨⟨sv, xs, rfl, hR⟩, hP⟩
  · have HP := (show Hid _ from hP)
    have ec : (c != 0) = true := bne_iff_ne.2 hc
    clear hsh hP hc
    go_wp2
    go_ret2
    exact ⟨HP.out _ _ _ rfl, HB1.out⟩
  · have HP := (show Hid _ from hP)
    have HR := (show Hid _ from hR)
    clear hsh hP
    generalize shAll lo hi = ss at *
    have hlx := hR.len
    obtain ⟨A, cs, rfl⟩ : ∃ A cs, sv = .slice A ss.length cs := by
      rcases hR.o.2 with ⟨rfl, h0⟩ | ⟨g, cap, cur, rfl, _⟩
      · exact ⟨none, 0, by rw [← hlx, h0]⟩
      · exact ⟨_, _, by rw [hlx]⟩
    clear hR hlx
    by_cases hn : ss.length = 0
    · have HE := (show Hid (patN ss = [(2, 0#256)]) from (by show _ = _; unfold patN; rw [if_pos hn]))
      have e0 : ((ss.length : Int) == 0) = true := by rw [hn]; rfl
      have HN := (show Hid _ from own_node w1 2)
      have HB2 := (show Hid (Below w.heap.size w (w1.alloc (.cells (ndZ 2) 51))) from HB1.out.alloc HB1.out.size _)
      have hz1' := HB1.out.size
      clear HO HR HLn hn
      generalize ss.length = m at *
      go_wp2
      go_ret2
      exact ⟨HP.out _ _ _ ⟨_, rfl, by rw [HE.out]; exact own_base HN.out hz1'⟩, HB2.out⟩
    · have HE := (show Hid (patN ss = ptTo ss ss.length) from (by show _ = _; unfold patN; rw [if_neg hn]))
      have e0 : ((ss.length : Int) == 0) = false := beq_eq_false_iff_ne.2 (by omega)
      have HG := (show Hid (∀ k, k < ss.length → ∃ s, ss[k]? = some s) from fun k hk => ⟨_, List.getElem?_eq_getElem hk⟩)
      have HPl := (show Hid (∀ k, (ptTo ss k).length ≤ 9 * k) from fun k => ptTo_len ss k fun s hs => (HO.out s hs).2.2)
      clear hn
      go_wp2_with fail
      go_loopw [8, 27] (fun u t wr => ∃ k : Nat, k ≤ ss.length ∧ t = .int .i64 k ∧ Hid (AtN w1 wr w1.heap.size (.slice none 0 0) u (ptTo ss k))) (fun _ t _ => ss.length - (intOf t).toNat)
      case atStart => exact ⟨0, by omega, by go_num, ⟨World.ownsRow_nil _ _ _ _, World.grownBy.refl _ _, fun k e => .inl e⟩⟩
      case round =>
        obtain ⟨k, hk, rfl, HW⟩ := hrel
        by_cases hlt : k < ss.length
        · obtain ⟨s, hs⟩ := HG.out k hlt
          have HBw := (show Hid (Below w1.heap.size w1 wr) from grown_below HW.out.g)
          obtain ⟨g, cap, gx, cx, hA, hgl, _, hcell, hgx, hspl⟩ := (HR.out.below HBw.out).get hs
          cases hA
          have HI := (show Hid (ptTo ss (k + 1) = (ptTo ss k ++ ndTo s s.length) ++ (if 0 < k then [(8, 0#256)] else [])) from (by show _ = _; rw [ptTo_succ]; unfold ptI; rw [hs, List.append_assoc]))
          obtain ⟨ho1, _, ho3⟩ := HO.out s (List.mem_of_getElem? hs)
          have hplk := HPl.out k
          have hln := HLn.out
          obtain ⟨gx0, hgx0⟩ : ∃ q : Nat, gx < w1.heap.size := ⟨0, by
            obtain ⟨g', cap', gx', cx', hA', _, _, hc', hgx', _⟩ := HR.out.get hs
            cases hA'
            have e1 := HBw.out.cell (p := ⟨g, k, none⟩) (World.block_lt_of_cell? w1 _ hc')
            rw [hcell] at e1
            rw [hc'] at e1
            cases e1
            exact hgx'⟩
          have HAS : Hid (Calls Tryz.prog 196 #[u8, .slice (some ⟨gx, 0, none⟩) s.length cx] wr fun e w' => ∃ v', e = .returned v' ∧ AtN wr w' w1.heap.size u8 v' (ptTo ss k ++ ndTo s s.length)) := appendShape_any u8 (ptTo ss k) w1.heap.size gx cx s ho1 ho3 (by omega) wr HW.out.o HBw.out.size hspl hgx (fun e => by
            rcases HW.out.k gx e with q | q
            · cases q
            · omega)
          have z0 : (0 : Int) ≤ (k : Int) := by omega
          have z1 : (k : Int) < (ss.length : Int) := by omega
          have z9 : (ss.length : Int) ≤ 1114112 := by omega
          have hndl := ndTo_len s s.length
          have hLl : (ptTo ss k ++ ndTo s s.length).length ≤ 20000000 := by rw [List.length_append]; omega
          generalize hM : ptTo ss k ++ ndTo s s.length = M at *
          clear hM hplk hln hspl ho1 hndl
          go_wp2_with fail
          refine HAS.out.mono ?_
          rintro e w2 ⟨v2, rfl, hA2⟩
          have HW2 := (show Hid (AtN w1 w2 w1.heap.size (.slice none 0 0) v2 M) from ⟨hA2.o, HW.out.g.andThen hA2.g (fun j e => by
            rcases HW.out.k j e with q | q
            · cases q
            · exact .inl q), fun j e => by
              rcases hA2.k j e with q | q
              · exact HW.out.k j q
              · have := HBw.out.size; exact .inr (by omega)⟩)
          have hsz2 := hA2.g.size
          have hszw := HBw.out.size
          clear hA2 HAS HW HBw hcell
          by_cases hk0 : 0 < k
          · have z2 : (0 : Int) < (k : Int) := by omega
            have hO3 := HW2.out.o
            have HI2 := (show Hid (ptTo ss (k + 1) = M ++ [(8, 0#256)]) from (by show _ = _; rw [HI.out, if_pos hk0]))
            go_wp2_with (at_builtin; refine wpList_append_lies _ rfl _ _ 34 rfl w1.heap.size 51 i0 (.agg #[.int .i64 0, .int .i64 0, .string ⟨#[]⟩, .int .u64 0, .int .u64 0, .int .u64 0, .int .u64 0]) 7 64 Tryz.underlying34 hinf hz0 hz1 hz2 rfl (by decide) _ _ _ rfl (hO3.alloc _) ⟨w2.heap.size, 0, none⟩ 1 1 (ndZ 8).toList rfl rfl (news_one w2 (ndZ 8)) (by rw [ndZ_eq]; exact nd_one _) (by decide) ?c3 ?c4 ?c5 (w2.heap.size + 1) (by simp) ?_)
            case c3 => unfold maxLen; omega
            case c4 => omega
            case c5 => simp; omega
            intro g2 cap2 w4 hown hgrow hat hlt4
            have HW4 := (show Hid (AtN w1 w4 w1.heap.size (.slice none 0 0) (.slice (some ⟨g2, 0, none⟩) (M.length + 1) cap2) (ptTo ss (k + 1))) from (by
              rw [HI2.out]
              exact HW2.out.push (n := (8, 0#256)) (by rw [← ndZ_eq]; exact hown) hgrow hat))
            clear hown hgrow hat hO3 HW2
            go_wp2
            go_roundw
            case rel => exact ⟨k + 1, by omega, by go_num, HW4⟩
            case measure => simp [intOf]; omega
          · have hk00 : k = 0 := by omega
            have HI2 := (show Hid (ptTo ss (k + 1) = M) from (by show _ = _; rw [HI.out, if_neg hk0, List.append_nil]))
            rw [← HI2.out] at HW2
            subst hk00
            go_wp2
            go_roundw
            case rel => exact ⟨0 + 1, by omega, by go_num, HW2⟩
            case measure => simp [intOf]; omega
        · obtain rfl : k = ss.length := by omega
          have HB3 := (show Hid (Below w.heap.size w wr) from HB1.out.trans ((grown_below HW.out.g).mono HB1.out.size))
          have hz := HB1.out.size
          rw [← HE.out] at HW
          clear HG HR HO HPl HE
          go_wp2
          go_ret2
          exact ⟨HP.out _ _ _ ⟨_, rfl, own_base HW.out.o hz⟩, HB3.out⟩
end Go.Proofs.YtkihfkcmcdiajaaGreatDoor.R

namespace Go.Proofs.YtkihfkcmcdiajaaGreatDoor.N
open Go.RowKit
/-- A node of layer 3's patterns, as any node. -/
def cvN (n : R.Nd) : Nd := ⟨n.1, 0, ⟨#[]⟩, wd n.2 0, wd n.2 1, wd n.2 2, wd n.2 3⟩
theorem cvN_ndc (l : List R.Nd) : R.ndc l = T.ndc (l.map cvN) := by
  unfold R.ndc T.ndc
  rw [List.flatMap_map]
  rfl
/-- The pattern of a range of code points. -/
def rnP (lo hi : Int) : List Nd := (R.patN (R.shAll lo hi)).map cvN
/-- The two nodes by which the program asks for a template. -/
def tmL (tx : ByteArray) : List Nd := [⟨1, 0, ⟨#[]⟩, 0, 0, 0, 0⟩, ⟨22, 0, tx, 0, 0, 0, 0⟩]
theorem ck_tm (tx : ByteArray) : ((T.ck (tmL tx)).2 == 0) = T.tmB tx := by
  have e : (⟨#[]⟩ : ByteArray) = ByteArray.empty := rfl
  cases h : T.tmB tx <;> simp [tmL, T.ck, T.ckGo, T.er, T.alE, T.fdF, T.txF, T.nuF, T.seF, T.ar, T.run, T.pt, T.mk, T.arN, T.opAt, h, e]
theorem rd_two (w : World) (a b : Nd) : T.RdN (w.alloc (.cells #[.int .i64 a.op, .int .i64 a.nn, .string a.tx, .int .u64 a.s0, .int .u64 a.s1, .int .u64 a.s2, .int .u64 a.s3, .int .i64 b.op, .int .i64 b.nn, .string b.tx, .int .u64 b.s0, .int .u64 b.s1, .int .u64 b.s2, .int .u64 b.s3] 51)) (some ⟨w.heap.size, 0, none⟩) [a, b] := fun _ => by
  refine ⟨w.heap.size, 0, rfl, by rw [World.size_alloc]; omega, ?_⟩
  refine T.own_ndl (B := w.heap.size) (n := 2) (cap := 2) (xs := []) ?_
  rw [List.append_nil]
  exact ⟨rfl, .inr ⟨w.heap.size, 2, _, rfl, Nat.le_refl _, heap_alloc_new w _, Nat.le_refl _, by unfold maxLen; omega, rfl, rfl⟩⟩
set_option maxRecDepth 100000 in
set_option maxHeartbeats 8000000 in
theorem isTem_any (tx : ByteArray) (hs : tx.size ≤ 140737488355328) (W : World) : Calls Tryz.prog 185 #[.string tx] W fun e W' => e = .returned (.bool (T.tmB tx)) ∧ Below W.heap.size W W' := by
  have HC : Hid (∀ _ : Unit, Calls Tryz.prog 16 #[.slice (some ⟨W.heap.size, 0, none⟩) 2 2] (W.alloc (.cells #[.int .i64 1, .int .i64 0, .string ⟨#[]⟩, .int .u64 0, .int .u64 0, .int .u64 0, .int .u64 0, .int .i64 22, .int .i64 0, .string tx, .int .u64 0, .int .u64 0, .int .u64 0, .int .u64 0] 51)) fun e w' => e = .returned (.tuple #[.int .i64 (T.ck (tmL tx)).1, .int .i64 (T.ck (tmL tx)).2]) ∧ Below (W.heap.size + 1) (W.alloc (.cells #[.int .i64 1, .int .i64 0, .string ⟨#[]⟩, .int .u64 0, .int .u64 0, .int .u64 0, .int .u64 0, .int .i64 22, .int .i64 0, .string tx, .int .u64 0, .int .u64 0, .int .u64 0, .int .u64 0] 51)) w') := fun _ => by
    have h := T.check_any (tmL tx) (some ⟨W.heap.size, 0, none⟩) 2 (by show 2 ≤ _; omega) (by intro n hn; rcases List.mem_cons.1 hn with rfl | hn; exact Nat.zero_le _; rw [List.mem_singleton.1 hn]; exact hs) _ (rd_two W _ _)
    rw [World.size_alloc] at h
    exact h
  have HE := (show Hid (((T.ck (tmL tx)).2 == 0) = T.tmB tx) from ck_tm tx)
  generalize T.ck (tmL tx) = r at *
  go_enter Tryz.func185, Tryz.ntmps185
  go_wp2_with fail
  refine (HC.out ()).mono ?_
  rintro e w1 ⟨rfl, hb⟩
  have HB := (show Hid (Below W.heap.size W w1) from (below_box W _).trans (hb.mono (Nat.le_succ _)))
  clear hb HC
  go_wp2_with fail
  go_ret
  exact ⟨by rw [← HE.out]; rfl, HB.out⟩
/-- The nodes of a token that is a primary by itself. -/
def lfN (t : Tk) : List Nd := if t.kd = 2 then (if t.tx.size = 0 then [nd0 1] else [⟨4, 0, t.tx, 0, 0, 0, 0⟩]) else if t.kd = 3 ∨ t.kd = 28 then [⟨5, 0, ⟨#[]⟩, t.s0, t.s1, t.s2, t.s3⟩] else if t.kd = 5 then rnP t.nn t.s0 else if t.kd = 18 then [nd0 3] else if t.kd = 30 then [nd0 2] else if t.kd = 1 then [⟨6, 0, t.tx, 0, 0, 0, 0⟩] else [nd0 1]
theorem own_nd (W : World) (n : Nd) (B : Nat) (hB : B ≤ W.heap.size) : (W.alloc (.cells #[.int .i64 n.op, .int .i64 n.nn, .string n.tx, .int .u64 n.s0, .int .u64 n.s1, .int .u64 n.s2, .int .u64 n.s3] 51)).ownsRow B 51 7 (.slice (some ⟨W.heap.size, 0, none⟩) 1 1) 1 (T.ndc [n]) := by
  rw [T.ndc_one]
  exact ⟨rfl, .inr ⟨W.heap.size, 1, _, rfl, hB, heap_alloc_new W _, Nat.le_refl _, by unfold maxLen; omega, rfl, rfl⟩⟩
theorem own_nd3 (w : World) (a b : Obj) (n : Nd) : (((w.alloc a).alloc b).alloc (.cells #[.int .i64 n.op, .int .i64 n.nn, .string n.tx, .int .u64 n.s0, .int .u64 n.s1, .int .u64 n.s2, .int .u64 n.s3] 51)).ownsRow w.heap.size 51 7 (.slice (some ⟨w.heap.size + 1 + 1, 0, none⟩) 1 1) 1 (T.ndc [n]) := by
  have h := own_nd ((w.alloc a).alloc b) n w.heap.size (by rw [World.size_alloc, World.size_alloc]; omega)
  rwa [World.size_alloc, World.size_alloc] at h
theorem below3 (w : World) (a b c : Obj) : Below w.heap.size w (((w.alloc a).alloc b).alloc c) := (((Below.refl _ _).alloc (Nat.le_refl _) _).alloc (by rw [World.size_alloc]; omega) _).alloc (by rw [World.size_alloc, World.size_alloc]; omega) _
/-- What leafOf answers. -/
def LfV (w w' : World) (M : List Nd) (e : Ending) : Prop := ∃ v, e = .returned v ∧ w'.ownsRow w.heap.size 51 7 v M.length (T.ndc M)
set_option maxRecDepth 100000 in
set_option maxHeartbeats 8000000 in
theorem leaf_18 (t : Tk) (hk : t.kd = 18) (w : World) : Calls Tryz.prog 184 #[tkG t] w fun e w' => LfV w w' [nd0 3] e ∧ Below w.heap.size w w' := by
  obtain ⟨kd, nn, fr, en, tx, s0, s1, s2, s3⟩ := t
  obtain rfl : kd = 18 := hk
  go_enter Tryz.func184, Tryz.ntmps184
  go_wp2_with fail
  go_ret
  exact ⟨⟨_, rfl, own_nd3 w _ _ (nd0 3)⟩, below3 _ _ _ _⟩
set_option maxRecDepth 100000 in
set_option maxHeartbeats 8000000 in
theorem leaf_30 (t : Tk) (hk : t.kd = 30) (w : World) : Calls Tryz.prog 184 #[tkG t] w fun e w' => LfV w w' [nd0 2] e ∧ Below w.heap.size w w' := by
  obtain ⟨kd, nn, fr, en, tx, s0, s1, s2, s3⟩ := t
  obtain rfl : kd = 30 := hk
  go_enter Tryz.func184, Tryz.ntmps184
  go_wp2_with fail
  go_ret
  exact ⟨⟨_, rfl, own_nd3 w _ _ (nd0 2)⟩, below3 _ _ _ _⟩
set_option maxRecDepth 100000 in
set_option maxHeartbeats 8000000 in
theorem leaf_1 (t : Tk) (hk : t.kd = 1) (w : World) : Calls Tryz.prog 184 #[tkG t] w fun e w' => LfV w w' [⟨6, 0, t.tx, 0, 0, 0, 0⟩] e ∧ Below w.heap.size w w' := by
  obtain ⟨kd, nn, fr, en, tx, s0, s1, s2, s3⟩ := t
  obtain rfl : kd = 1 := hk
  go_enter Tryz.func184, Tryz.ntmps184
  go_wp2_with fail
  go_ret
  exact ⟨⟨_, rfl, own_nd3 w _ _ (⟨6, 0, tx, 0, 0, 0, 0⟩)⟩, below3 _ _ _ _⟩
set_option maxRecDepth 100000 in
set_option maxHeartbeats 8000000 in
theorem leaf_3 (t : Tk) (hk : t.kd = 3) (w : World) : Calls Tryz.prog 184 #[tkG t] w fun e w' => LfV w w' [⟨5, 0, ⟨#[]⟩, t.s0, t.s1, t.s2, t.s3⟩] e ∧ Below w.heap.size w w' := by
  obtain ⟨kd, nn, fr, en, tx, s0, s1, s2, s3⟩ := t
  obtain rfl : kd = 3 := hk
  go_enter Tryz.func184, Tryz.ntmps184
  go_wp2_with fail
  go_ret
  exact ⟨⟨_, rfl, own_nd3 w _ _ (⟨5, 0, ⟨#[]⟩, s0, s1, s2, s3⟩)⟩, below3 _ _ _ _⟩
set_option maxRecDepth 100000 in
set_option maxHeartbeats 8000000 in
theorem leaf_28 (t : Tk) (hk : t.kd = 28) (w : World) : Calls Tryz.prog 184 #[tkG t] w fun e w' => LfV w w' [⟨5, 0, ⟨#[]⟩, t.s0, t.s1, t.s2, t.s3⟩] e ∧ Below w.heap.size w w' := by
  obtain ⟨kd, nn, fr, en, tx, s0, s1, s2, s3⟩ := t
  obtain rfl : kd = 28 := hk
  go_enter Tryz.func184, Tryz.ntmps184
  go_wp2_with fail
  go_ret
  exact ⟨⟨_, rfl, own_nd3 w _ _ (⟨5, 0, ⟨#[]⟩, s0, s1, s2, s3⟩)⟩, below3 _ _ _ _⟩
set_option maxRecDepth 100000 in
set_option maxHeartbeats 8000000 in
theorem leaf_29 (t : Tk) (hk : t.kd = 29) (w : World) : Calls Tryz.prog 184 #[tkG t] w fun e w' => LfV w w' [nd0 1] e ∧ Below w.heap.size w w' := by
  obtain ⟨kd, nn, fr, en, tx, s0, s1, s2, s3⟩ := t
  obtain rfl : kd = 29 := hk
  go_enter Tryz.func184, Tryz.ntmps184
  go_wp2_with fail
  go_ret
  exact ⟨⟨_, rfl, own_nd3 w _ _ (nd0 1)⟩, below3 _ _ _ _⟩
set_option maxRecDepth 100000 in
set_option maxHeartbeats 8000000 in
theorem leaf_2e (t : Tk) (hk : t.kd = 2) (ht : t.tx.size = 0) (w : World) : Calls Tryz.prog 184 #[tkG t] w fun e w' => LfV w w' [nd0 1] e ∧ Below w.heap.size w w' := by
  obtain ⟨kd, nn, fr, en, tx, s0, s1, s2, s3⟩ := t
  obtain rfl : kd = 2 := hk
  have e1 : tx = ⟨#[]⟩ := by
    have h : tx.size = 0 := ht
    obtain ⟨d⟩ := tx
    rw [Array.eq_empty_of_size_eq_zero (show d.size = 0 from h)]
  subst e1
  clear ht
  go_enter Tryz.func184, Tryz.ntmps184
  go_wp2_with fail
  go_ret
  exact ⟨⟨_, rfl, own_nd3 w _ _ (nd0 1)⟩, below3 _ _ _ _⟩
set_option maxRecDepth 100000 in
set_option maxHeartbeats 8000000 in
theorem leaf_2 (t : Tk) (hk : t.kd = 2) (ht : ¬ t.tx.size = 0) (w : World) : Calls Tryz.prog 184 #[tkG t] w fun e w' => LfV w w' [⟨4, 0, t.tx, 0, 0, 0, 0⟩] e ∧ Below w.heap.size w w' := by
  obtain ⟨kd, nn, fr, en, tx, s0, s1, s2, s3⟩ := t
  obtain rfl : kd = 2 := hk
  have e1 : tx.toList.isEmpty = false := T.emp_f ht
  clear ht
  go_enter Tryz.func184, Tryz.ntmps184
  go_wp2_with fail
  go_ret
  exact ⟨⟨_, rfl, own_nd3 w _ _ (⟨4, 0, tx, 0, 0, 0, 0⟩)⟩, below3 _ _ _ _⟩
set_option maxRecDepth 100000 in
set_option maxHeartbeats 8000000 in
theorem leaf_5 (t : Tk) (hk : t.kd = 5) (hn : 0 ≤ t.nn ∧ t.nn ≤ t.s0 ∧ t.s0 ≤ 1114111) (w : World) (hv : R.VB w) : Calls Tryz.prog 184 #[tkG t] w fun e w' => LfV w w' (rnP t.nn t.s0) e ∧ Below w.heap.size w w' := by
  obtain ⟨kd, nn, fr, en, tx, s0, s1, s2, s3⟩ := t
  obtain rfl : kd = 5 := hk
  dsimp only at hn ⊢
  have HP : Hid (∀ W, R.VB W → Calls Tryz.prog 191 #[.int .i64 nn, .int .i64 s0] W fun e w' => (∃ v, e = .returned (.tuple #[v, .int .i64 0]) ∧ w'.ownsRow W.heap.size 51 7 v (rnP nn s0).length (T.ndc (rnP nn s0))) ∧ Below W.heap.size W w') := fun W h => by
    refine (R.pattern_any nn s0 W h).mono ?_
    rintro e w' ⟨h1, h2⟩
    refine ⟨?_, h2⟩
    unfold R.PnV at h1
    rw [if_pos ⟨by unfold R.bdB; exact decide_eq_true (by omega), by unfold R.bdB; exact decide_eq_true (by omega)⟩, if_pos hn.2.1] at h1
    obtain ⟨v, h3, h4⟩ := h1
    exact ⟨v, h3, by unfold rnP; rw [List.length_map, ← cvN_ndc]; exact h4⟩
  have HV := (show Hid (R.VB w) from hv)
  have u1 : IntKind.i64.wrap s0 = s0 := by rw [IntKind.wrap_i64]; omega
  clear hv hn
  generalize rnP nn s0 = M at *
  go_enter Tryz.func184, Tryz.ntmps184
  go_wp2_with fail
  have hb2 : ∀ a b : Obj, Below w.heap.size w ((w.alloc a).alloc b) := fun a b => ((Below.refl _ _).alloc (Nat.le_refl _) _).alloc (by rw [World.size_alloc]; omega) _
  refine (HP.out _ (HV.out.below (hb2 _ _) HV.out.lt)).mono ?_
  rintro e w1 ⟨⟨v, rfl, ho⟩, hb⟩
  have HO := (show Hid (w1.ownsRow w.heap.size 51 7 v M.length (T.ndc M) ∧ Below w.heap.size w w1) from ⟨own_base ho (by rw [World.size_alloc, World.size_alloc]; omega), (hb2 _ _).trans (hb.mono (by rw [World.size_alloc, World.size_alloc]; omega))⟩)
  clear ho hb hb2 HP HV
  go_wp2_with fail
  go_ret
  exact ⟨⟨v, rfl, HO.out.1⟩, HO.out.2⟩
/-- leafOf, at a token that is a primary by itself. -/
theorem leaf_any (t : Tk) (hk : t.kd = 2 ∨ t.kd = 3 ∨ t.kd = 28 ∨ t.kd = 5 ∨ t.kd = 18 ∨ t.kd = 29 ∨ t.kd = 30 ∨ t.kd = 1) (hn : t.kd = 5 → 0 ≤ t.nn ∧ t.nn ≤ t.s0 ∧ t.s0 ≤ 1114111) (w : World) (hv : R.VB w) : Calls Tryz.prog 184 #[tkG t] w fun e w' => LfV w w' (lfN t) e ∧ Below w.heap.size w w' := by
  rcases hk with h | h | h | h | h | h | h | h
  · by_cases q : t.tx.size = 0
    · rw [show lfN t = [nd0 1] from by unfold lfN; rw [if_pos h, if_pos q]]; exact leaf_2e t h q w
    · rw [show lfN t = [⟨4, 0, t.tx, 0, 0, 0, 0⟩] from by unfold lfN; rw [if_pos h, if_neg q]]; exact leaf_2 t h q w
  · rw [show lfN t = [⟨5, 0, ⟨#[]⟩, t.s0, t.s1, t.s2, t.s3⟩] from by unfold lfN; rw [if_neg (by omega), if_pos (.inl h)]]; exact leaf_3 t h w
  · rw [show lfN t = [⟨5, 0, ⟨#[]⟩, t.s0, t.s1, t.s2, t.s3⟩] from by unfold lfN; rw [if_neg (by omega), if_pos (.inr h)]]; exact leaf_28 t h w
  · rw [show lfN t = rnP t.nn t.s0 from by unfold lfN; rw [if_neg (by omega), if_neg (by omega), if_pos h]]; exact leaf_5 t h (hn h) w hv
  · rw [show lfN t = [nd0 3] from by unfold lfN; rw [if_neg (by omega), if_neg (by omega), if_neg (by omega), if_pos h]]; exact leaf_18 t h w
  · rw [show lfN t = [nd0 1] from by unfold lfN; rw [if_neg (by omega), if_neg (by omega), if_neg (by omega), if_neg (by omega), if_neg (by omega), if_neg (by omega)]]; exact leaf_29 t h w
  · rw [show lfN t = [nd0 2] from by unfold lfN; rw [if_neg (by omega), if_neg (by omega), if_neg (by omega), if_neg (by omega), if_pos h]]; exact leaf_30 t h w
  · rw [show lfN t = [⟨6, 0, t.tx, 0, 0, 0, 0⟩] from by unfold lfN; rw [if_neg (by omega), if_neg (by omega), if_neg (by omega), if_neg (by omega), if_neg (by omega), if_pos h]]; exact leaf_1 t h w
end Go.Proofs.YtkihfkcmcdiajaaGreatDoor.N

namespace Go.Proofs.YtkihfkcmcdiajaaGreatDoor.N
open Go.RowKit
theorem primK_len {rn : Int → Int → List Nd} (hr : ∀ a b, (rn a b).length + 1 ≤ 10027010) {t : Tk} {k2 : Int} {p : List Nd × Nat} (h : primK rn t k2 = .inl p) : p.1.length + 1 ≤ 10027010 := by
  unfold primK at h
  by_cases c0 : t.kd = 2
  · rw [if_pos c0] at h
    cases h; first | exact hr _ _ | (show List.length _ + 1 ≤ _; simp; done) | (show (if _ then _ else _ : List Nd).length + 1 ≤ _; split <;> simp)
  rw [if_neg c0] at h
  by_cases c1 : t.kd = 3 ∨ t.kd = 28
  · rw [if_pos c1] at h
    cases h; first | exact hr _ _ | (show List.length _ + 1 ≤ _; simp; done) | (show (if _ then _ else _ : List Nd).length + 1 ≤ _; split <;> simp)
  rw [if_neg c1] at h
  by_cases c2 : t.kd = 5
  · rw [if_pos c2] at h
    cases h; first | exact hr _ _ | (show List.length _ + 1 ≤ _; simp; done) | (show (if _ then _ else _ : List Nd).length + 1 ≤ _; split <;> simp)
  rw [if_neg c2] at h
  by_cases c3 : t.kd = 18
  · rw [if_pos c3] at h
    cases h; first | exact hr _ _ | (show List.length _ + 1 ≤ _; simp; done) | (show (if _ then _ else _ : List Nd).length + 1 ≤ _; split <;> simp)
  rw [if_neg c3] at h
  by_cases c4 : t.kd = 29
  · rw [if_pos c4] at h
    cases h; first | exact hr _ _ | (show List.length _ + 1 ≤ _; simp; done) | (show (if _ then _ else _ : List Nd).length + 1 ≤ _; split <;> simp)
  rw [if_neg c4] at h
  by_cases c5 : t.kd = 30
  · rw [if_pos c5] at h
    cases h; first | exact hr _ _ | (show List.length _ + 1 ≤ _; simp; done) | (show (if _ then _ else _ : List Nd).length + 1 ≤ _; split <;> simp)
  rw [if_neg c5] at h
  by_cases c6 : t.kd = 1
  · rw [if_pos c6] at h
    cases h; first | exact hr _ _ | (show List.length _ + 1 ≤ _; simp; done) | (show (if _ then _ else _ : List Nd).length + 1 ≤ _; split <;> simp)
  rw [if_neg c6] at h
  by_cases c7 : t.kd = 16
  · rw [if_pos c7] at h
    cases h
  rw [if_neg c7] at h
  by_cases c8 : t.kd = 19
  · rw [if_pos c8] at h
    by_cases d : k2 = 20
    · rw [if_pos d] at h
      cases h; show List.length _ + 1 ≤ _; simp
    · rw [if_neg d] at h
      cases h
  rw [if_neg c8] at h
  by_cases c9 : t.kd = 21
  · rw [if_pos c9] at h
    cases h
  rw [if_neg c9] at h
  by_cases c10 : t.kd = 23
  · rw [if_pos c10] at h
    cases h
  rw [if_neg c10] at h
  cases h
theorem primK_clen {rn : Int → Int → List Nd} {t : Tk} {k2 : Int} {p : Int × List Nd} (h : primK rn t k2 = .inr p) : p.2.length ≤ 1 := by
  unfold primK at h
  by_cases c0 : t.kd = 2
  · rw [if_pos c0] at h
    cases h
  rw [if_neg c0] at h
  by_cases c1 : t.kd = 3 ∨ t.kd = 28
  · rw [if_pos c1] at h
    cases h
  rw [if_neg c1] at h
  by_cases c2 : t.kd = 5
  · rw [if_pos c2] at h
    cases h
  rw [if_neg c2] at h
  by_cases c3 : t.kd = 18
  · rw [if_pos c3] at h
    cases h
  rw [if_neg c3] at h
  by_cases c4 : t.kd = 29
  · rw [if_pos c4] at h
    cases h
  rw [if_neg c4] at h
  by_cases c5 : t.kd = 30
  · rw [if_pos c5] at h
    cases h
  rw [if_neg c5] at h
  by_cases c6 : t.kd = 1
  · rw [if_pos c6] at h
    cases h
  rw [if_neg c6] at h
  by_cases c7 : t.kd = 16
  · rw [if_pos c7] at h
    cases h; show List.length _ ≤ 1; simp
  rw [if_neg c7] at h
  by_cases c8 : t.kd = 19
  · rw [if_pos c8] at h
    by_cases d : k2 = 20
    · rw [if_pos d] at h
      cases h
    · rw [if_neg d] at h
      cases h; show List.length _ ≤ 1; simp
  rw [if_neg c8] at h
  by_cases c9 : t.kd = 21
  · rw [if_pos c9] at h
    cases h; show List.length _ ≤ 1; simp
  rw [if_neg c9] at h
  by_cases c10 : t.kd = 23
  · rw [if_pos c10] at h
    cases h; show List.length _ ≤ 1; simp
  rw [if_neg c10] at h
  cases h; show List.length _ ≤ 1; simp
theorem PF_len (E : PE) (hr : ∀ a b, (E.rn a b).length + 1 ≤ 10027010) : ∀ (f m i d a : Nat) (ns : List Nd), i ≤ E.l.length → (m = 5 → i < E.l.length) → PF E f m i d = .inl (a, ns) → (m = 0 ∨ m = 2 ∨ m = 4 ∨ m = 5 → ns.length + 1 ≤ 10027010 * (a - i)) ∧ ns.length ≤ 10027010 * (a - i) := by
  intro f
  induction f with
  | zero => intro m i d a ns _ _ h; rw [PF] at h; cases h
  | succ f ih =>
    intro m i d a ns hi h5 h
    rw [PF] at h
    by_cases m0 : m = 0
    · rw [if_pos m0] at h
      obtain ⟨a1, n1, r1, h⟩ := bnd_inl h
      obtain ⟨n2, r2, e2⟩ := ahd_inl h
      obtain ⟨x1, x2, x3⟩ := PF_adv E _ _ _ _ _ _ hi (by omega) r1
      obtain ⟨y1, y2, _⟩ := PF_adv E _ _ _ _ _ _ x2 (by omega) r2
      obtain ⟨u1, u2⟩ := ih _ _ _ _ _ hi (by omega) r1
      obtain ⟨v1, v2⟩ := ih _ _ _ _ _ x2 (by omega) r2
      have := u1 (by omega)
      dsimp only at y1 y2 e2 v2
      rw [e2, List.length_append]
      exact ⟨fun _ => by omega, by omega⟩
    rw [if_neg m0] at h
    by_cases m1 : m = 1
    · rw [if_pos m1] at h
      by_cases k7 : kdA E i = 7
      · have hlt := kd_lt (E := E) (i := i) (by omega)
        rw [if_pos k7] at h
        obtain ⟨a1, n1, r1, h⟩ := bnd_inl h
        obtain ⟨n2, r2, e2⟩ := ahd_inl h
        obtain ⟨x1, x2, x3⟩ := PF_adv E _ _ _ _ _ _ (by omega) (by omega) r1
        obtain ⟨y1, y2, _⟩ := PF_adv E _ _ _ _ _ _ x2 (by omega) r2
        obtain ⟨u1, u2⟩ := ih _ _ _ _ _ (by omega) (by omega) r1
        obtain ⟨v1, v2⟩ := ih _ _ _ _ _ x2 (by omega) r2
        have := u1 (by omega)
        dsimp only at y1 y2 e2 v2
        rw [e2, List.length_append, List.length_append, List.length_singleton]
        exact ⟨fun q => by omega, by omega⟩
      · rw [if_neg k7] at h
        cases h
        exact ⟨fun q => by omega, by simp⟩
    rw [if_neg m1] at h
    by_cases m2 : m = 2
    · rw [if_pos m2] at h
      obtain ⟨a1, n1, r1, h⟩ := bnd_inl h
      obtain ⟨n2, r2, e2⟩ := ahd_inl h
      obtain ⟨x1, x2, x3⟩ := PF_adv E _ _ _ _ _ _ hi (by omega) r1
      obtain ⟨y1, y2, _⟩ := PF_adv E _ _ _ _ _ _ x2 (by omega) r2
      obtain ⟨u1, u2⟩ := ih _ _ _ _ _ hi (by omega) r1
      obtain ⟨v1, v2⟩ := ih _ _ _ _ _ x2 (by omega) r2
      have := u1 (by omega)
      dsimp only at y1 y2 e2 v2
      rw [e2, List.length_append]
      exact ⟨fun _ => by omega, by omega⟩
    rw [if_neg m2] at h
    by_cases m3 : m = 3
    · rw [if_pos m3] at h
      by_cases kb : bgn E i = true
      · have hlt := bgn_lt kb
        rw [if_pos kb] at h
        obtain ⟨a1, n1, r1, h⟩ := bnd_inl h
        obtain ⟨n2, r2, e2⟩ := ahd_inl h
        obtain ⟨x1, x2, x3⟩ := PF_adv E _ _ _ _ _ _ (by omega) (by omega) r1
        obtain ⟨y1, y2, _⟩ := PF_adv E _ _ _ _ _ _ x2 (by omega) r2
        obtain ⟨u1, u2⟩ := ih _ _ _ _ _ (by omega) (by omega) r1
        obtain ⟨v1, v2⟩ := ih _ _ _ _ _ x2 (by omega) r2
        have := u1 (by omega)
        dsimp only at y1 y2 e2 v2
        rw [e2, List.length_append, List.length_append, List.length_singleton]
        exact ⟨fun q => by omega, by omega⟩
      · rw [if_neg kb] at h
        cases h
        exact ⟨fun q => by omega, by simp⟩
    rw [if_neg m3] at h
    by_cases m4 : m = 4
    · rw [if_pos m4] at h
      by_cases kb : bgn E i = true
      · have hlt := bgn_lt kb
        rw [if_pos kb] at h
        by_cases k8 : kdA E i = 8 ∨ kdA E i = 9
        · rw [if_pos k8] at h
          split at h
          · cases h
          · obtain ⟨a1, n1, r1, h⟩ := bnd_inl h
            cases h
            obtain ⟨x1, x2, x3⟩ := PF_adv E _ _ _ _ _ _ (by omega) (by omega) r1
            obtain ⟨u1, u2⟩ := ih _ _ _ _ _ (by omega) (by omega) r1
            have := u1 (by omega)
            rw [List.length_append, List.length_singleton]
            exact ⟨fun _ => by omega, by omega⟩
        · rw [if_neg k8] at h
          obtain ⟨a1, n1, r1, h⟩ := bnd_inl h
          obtain ⟨n2, r2, e2⟩ := ahd_inl h
          obtain ⟨x1, x2, x3⟩ := PF_adv E _ _ _ _ _ _ (by omega) (fun _ => hlt) r1
          obtain ⟨y1, y2, _⟩ := PF_adv E _ _ _ _ _ _ x2 (by omega) r2
          obtain ⟨u1, u2⟩ := ih _ _ _ _ _ (by omega) (fun _ => hlt) r1
          obtain ⟨v1, v2⟩ := ih _ _ _ _ _ x2 (by omega) r2
          have := u1 (by omega)
          dsimp only at y1 y2 e2 v2
          rw [e2, List.length_append]
          exact ⟨fun _ => by omega, by omega⟩
      · rw [if_neg kb] at h; cases h
    rw [if_neg m4] at h
    by_cases m5 : m = 5
    · rw [if_pos m5] at h
      have hlt := h5 m5
      cases hp : primL E i with
      | inl p =>
        rw [hp] at h
        cases h
        have h1 := prim_lt hlt hp
        have h2 := primK_len hr hp
        exact ⟨fun _ => by omega, by omega⟩
      | inr p =>
        rw [hp] at h
        dsimp only at h
        have h2 := primK_clen hp
        split at h
        · cases h
        · obtain ⟨a1, n1, r1, h⟩ := bnd_inl h
          obtain ⟨x1, x2, x3⟩ := PF_adv E _ _ _ _ _ _ (by omega) (by omega) r1
          obtain ⟨u1, u2⟩ := ih _ _ _ _ _ (by omega) (by omega) r1
          have := u1 (by omega)
          split at h
          · cases h
            rw [List.length_append]
            exact ⟨fun _ => by omega, by omega⟩
          · cases h
    rw [if_neg m5] at h
    cases hp : sufN E i with
    | inr q =>
      rw [hp] at h
      cases q with
      | none => cases h; exact ⟨fun q => by omega, by simp⟩
      | some c => cases h
    | inl p =>
      rw [hp] at h
      dsimp only at h
      obtain ⟨n2, r2, e2⟩ := ahd_inl h
      have h1 := suf_lt hp
      obtain ⟨y1, y2, _⟩ := PF_adv E _ _ _ _ _ _ h1.2 (by omega) r2
      obtain ⟨v1, v2⟩ := ih _ _ _ _ _ h1.2 (by omega) r2
      dsimp only at y1 y2 e2 v2
      rw [e2, List.length_append, List.length_singleton]
      exact ⟨fun q => by omega, by omega⟩
theorem gN_len {E : PE} (hr : ∀ a b, (E.rn a b).length + 1 ≤ 10027010) {m i d a : Nat} {ns : List Nd} (hi : i ≤ E.l.length) (h5 : m = 5 → i < E.l.length) (h : gN E m i d = .inl (a, ns)) : (m = 0 ∨ m = 2 ∨ m = 4 ∨ m = 5 → ns.length + 1 ≤ 10027010 * (a - i)) ∧ ns.length ≤ 10027010 * (a - i) := PF_len E hr _ _ _ _ _ _ hi h5 h
end Go.Proofs.YtkihfkcmcdiajaaGreatDoor.N

namespace Go.Proofs.YtkihfkcmcdiajaaGreatDoor.N
open Go.RowKit
theorem rnP_len (a b : Int) : (rnP a b).length + 1 ≤ 10027010 := by
  unfold rnP
  rw [List.length_map]
  have h1 := R.shTo_len a b 5
  rw [R.shTo_all] at h1
  unfold R.patN
  split
  · simp
  · have h2 := R.ptTo_len (R.shAll a b) (R.shAll a b).length (fun s hs => (R.shAll_ord a b s hs).2.2)
    omega
/-- What is known of the tokens. -/
structure OkE (E : PE) : Prop where
  len : E.l.length ≤ 65536
  rn : E.rn = rnP
  tm : E.tm = T.tmB
  rg : ∀ t ∈ E.l, t.kd = 5 → 0 ≤ t.nn ∧ t.nn ≤ t.s0 ∧ t.s0 ≤ 1114111
  tx : ∀ t ∈ E.l, t.tx.size ≤ 65536
  n0 : ∀ t ∈ E.l, t.kd = 10 ∨ t.kd = 11 ∨ t.kd = 12 → t.nn = 0
theorem OkE.rl {E : PE} (h : OkE E) : ∀ a b, (E.rn a b).length + 1 ≤ 10027010 := fun a b => by rw [h.rn]; exact rnP_len a b
theorem OkE.z {E : PE} (h : OkE E) : E.l.length ≤ 1000000 := Nat.le_trans h.len (by omega)
/-- How a function of the reader ends. -/
def PoR (E : PE) (z : Nat) (w0 : World) (b : Nat) (tv : Value) (d : Nat) (W : World) (v : Value) (L : List Nd) (r : PR) (e : Ending) (W' : World) : Prop := match r with
  | .inl p => e = .returned (.tuple #[]) ∧ ∃ v', RS E z w0 W' b tv p.1 d v' (L ++ p.2) ∧ Fr W W' b v v'
  | .inr q => e = pnc (plA E z q.1) q.2 ∧ Below w0.heap.size w0 W'
/-- What a function F of the reader does: r is what is read from token i on. -/
def Ct (F : Nat) (E : PE) (z : Nat) (w0 : World) (b : Nat) (tv : Value) (i d : Nat) (r : PR) : Prop :=
  ∀ (W : World) (v : Value) (L : List Nd), RS E z w0 W b tv i d v L → L.length ≤ 10027010 * i → Calls Tryz.prog F #[.pointer (some ⟨b, 0, none⟩)] W fun e W' => PoR E z w0 b tv d W v L r e W'
def nxt (b : Nat) (W : World) : Nat := match W.cell? ⟨b, 1, none⟩ with
  | some (.int .i64 i) => i.toNat
  | _ => 0
theorem RS.nx {E : PE} {z : Nat} {w0 W : World} {b : Nat} {tv : Value} {i d : Nat} {v : Value} {L : List Nd} (h : RS E z w0 W b tv i d v L) : nxt b W = i := by
  unfold nxt
  rw [h.x.cl.2.1]
  rfl
theorem put_one {E : PE} {z : Nat} {w0 W : World} {b : Nat} {tv : Value} {i d : Nat} {v : Value} {L : List Nd} (h : RS E z w0 W b tv i d v L) (n : Nd) (hl : L.length + 1 ≤ 2000000000000) :
    Calls Tryz.prog 110 #[.pointer (some ⟨b, 0, none⟩), .slice (some ⟨W.heap.size, 0, none⟩) 1 1] (W.alloc (.cells #[.int .i64 n.op, .int .i64 n.nn, .string n.tx, .int .u64 n.s0, .int .u64 n.s1, .int .u64 n.s2, .int .u64 n.s3] 51)) fun e W' => e = .returned (.tuple #[]) ∧ ∃ v', RS E z w0 W' b tv i d v' (L ++ [n]) ∧ Fr W W' b v v' := by
  refine (put_any (h.later (below_box W _)) [n] W.heap.size 1 (by simp) hl (by rw [T.ndc_one]; exact World.news_of_block (t := 51) (fr := (0, 0)) (heap_alloc_new W _))).mono ?_
  rintro e w' ⟨h1, v', h2, h3⟩
  exact ⟨h1, v', h2, (Fr.below b v (below_box W _)).trans h3⟩
set_option maxRecDepth 100000 in
set_option maxHeartbeats 8000000 in
theorem exp_any {E : PE} (hE : OkE E) {z : Nat} {w0 : World} {b : Nat} {tv : Value} {i d : Nat} (HS0 : ∀ a, i ≤ a → a ≤ E.l.length → Ct 109 E z w0 b tv a d (gN E 2 a d)) : Ct 81 E z w0 b tv i d (gN E 0 i d) := by
  intro W v L h hL
  have hi := h.hi
  have hlen := hE.len
  have HS : Hid (∀ a, i ≤ a → a ≤ E.l.length → Ct 109 E z w0 b tv a d (gN E 2 a d)) := HS0
  have H := (show Hid _ from h)
  have HE := (show Hid _ from hE)
  have HC : Hid (∀ _ : Unit, Calls Tryz.prog 109 #[.pointer (some ⟨b, 0, none⟩)] W fun e W' => PoR E z w0 b tv d W v L (gN E 2 i d) e W') := fun _ => HS0 i (Nat.le_refl _) hi W v L h hL
  have HG := (show Hid _ from g0 E i d hi)
  clear h hE HS0
  cases hr : gN E 2 i d with
  | inr q =>
    rw [hr] at HC HG
    have HV : Hid (gN E 0 i d = .inr q) := HG.out
    rw [HV.out]
    clear HG hr HS
    go_enter Tryz.func81, Tryz.ntmps81
    go_wp2_with fail
    refine (HC.out ()).mono ?_
    rintro e w1 ⟨rfl, hb⟩
    exact post_panic rfl ⟨rfl, hb⟩
  | inl p =>
    obtain ⟨a, ns⟩ := p
    rw [hr] at HC HG
    have hadv := gN_adv hi (by omega) hr
    have hlenN := (gN_len HE.out.rl hi (by omega) hr).1 (by omega)
    have HV : Hid (gN E 0 i d = ahd ns (gN E 1 a d)) := HG.out
    generalize gN E 0 i d = R0 at *
    have hia := hadv.2.2 (by omega)
    have hal := hadv.2.1
    clear HG hr hadv
    go_enter Tryz.func81, Tryz.ntmps81
    go_wp2_with fail
    refine (HC.out ()).mono ?_
    rintro e w1 ⟨rfl, v1, h1, hf1⟩
    have H1 := (show Hid _ from h1)
    have HF1 := (show Hid (Fr W w1 b v v1) from hf1)
    obtain ⟨v0, hv0⟩ : ∃ u, u = v := ⟨_, rfl⟩
    rw [← hv0] at HF1
    clear HC h1 hf1
    go_wp2_with fail
    go_loopw [4] (fun _ wr => ∃ (a : Nat) (v : Value) (M : List Nd), i < a ∧ a ≤ E.l.length ∧ (L ++ M).length ≤ 10027010 * a ∧ Hid (RS E z w0 wr b tv a d v (L ++ M)) ∧ Hid (Fr W wr b v0 v) ∧ Hid (R0 = ahd M (gN E 1 a d))) (fun _ wr => E.l.length - nxt b wr)
    case atStart => exact ⟨a, v1, ns, hia, hal, by rw [List.length_append]; omega, H1, HF1, HV⟩
    case round =>
      obtain ⟨a, v, M, ha1, ha2, hlm, HW, HFW, HR⟩ := hrel
      clear H1 HF1 HV hia hal hlenN
      have HGa := (show Hid _ from g1 E a d ha2)
      obtain ⟨t, ht, hk, _, _⟩ := toks_get E z ha2
      have HH : Hid (∀ _ : Unit, Calls Tryz.prog 46 #[.pointer (some ⟨b, 0, none⟩)] wr fun e W' => e = .returned (.agg #[.int .i64 t.kd, .int .i64 t.nn, .int .i64 t.fr, .int .i64 t.en, .string t.tx, .int .u64 t.s0, .int .u64 t.s1, .int .u64 t.s2, .int .u64 t.s3]) ∧ Below wr.heap.size wr W') := fun _ => here_any HW.out t ht
      have fl0 := fld0
      have hz := HE.out.z
      by_cases hkk : kdA E a = 7
      · have hlt := kd_lt (E := E) (i := a) (by omega)
        rw [hk.trans hkk] at HH
        have HP : Hid (∀ W, RS E z w0 W b tv a d v (L ++ M) → Calls Tryz.prog 80 #[.pointer (some ⟨b, 0, none⟩), .int .i64 7] W fun e W' => e = .returned (.tuple #[]) ∧ RS E z w0 W' b tv (a + 1) d v (L ++ M) ∧ Fr W W' b v v) := fun W h => by
          have := pass_ok h hlt hz
          rw [hkk] at this
          exact this
        clear ht hk
        have HSa : Hid (∀ W, RS E z w0 W b tv (a + 1) d v (L ++ M) → Calls Tryz.prog 109 #[.pointer (some ⟨b, 0, none⟩)] W fun e W' => PoR E z w0 b tv d W v (L ++ M) (gN E 2 (a + 1) d) e W') := fun W h => HS.out (a + 1) (by omega) (by omega) W v _ h (by omega)
        cases hr : gN E 2 (a + 1) d with
        | inr q =>
          have HV : Hid (R0 = .inr q) := by
            show R0 = _
            rw [HR.out, HGa.out, if_pos hkk, hr]
            rfl
          rw [hr] at HSa
          clear HR HGa hr hkk
          go_wp2_with fail
          refine (HH.out ()).mono ?_
          rintro e w1 ⟨rfl, hb⟩
          have HY := (show Hid _ from HW.out.later hb)
          have HFY := (show Hid (Fr wr w1 b v v) from Fr.below b v hb)
          clear hb HH
          go_wp2_with fail
          refine (HP.out _ HY.out).mono ?_
          rintro e w2 ⟨rfl, h2, hf2⟩
          have HX := (show Hid _ from h2)
          have HFX := (show Hid (Fr wr w2 b v v) from HFY.out.trans hf2)
          clear h2 hf2 HY HFY HP
          go_wp2_with fail
          refine (HSa.out _ HX.out).mono ?_
          rintro e w3 ⟨rfl, hb⟩
          exact post_panic (P := Tryz.prog) (fn := Tryz.f81) rfl (by subst hv0; show PoR E z w0 b tv d W _ L R0 _ _; rw [HV.out]; exact ⟨rfl, hb⟩)
        | inl p =>
          obtain ⟨a2, ns2⟩ := p
          have hadv := gN_adv (i := a + 1) (by omega) (by omega) hr
          have hln := (gN_len HE.out.rl (i := a + 1) (by omega) (by omega) hr).1 (by omega)
          have hia := hadv.2.2 (by omega)
          have hal := hadv.2.1
          have HV : Hid (R0 = ahd (M ++ (ns2 ++ [nd0 8])) (gN E 1 a2 d)) := by
            show R0 = _
            rw [HR.out, HGa.out, if_pos hkk, hr]
            show ahd M (ahd (ns2 ++ [nd0 8]) (gN E 1 a2 d)) = _
            rw [ahd_ahd]
          rw [hr] at HSa
          have HPu : Hid (∀ W v, RS E z w0 W b tv a2 d v (L ++ M ++ ns2) → Calls Tryz.prog 110 #[.pointer (some ⟨b, 0, none⟩), .slice (some ⟨W.heap.size, 0, none⟩) 1 1] (W.alloc (.cells #[.int .i64 8, .int .i64 0, .string ⟨#[]⟩, .int .u64 0, .int .u64 0, .int .u64 0, .int .u64 0] 51)) fun e W' => e = .returned (.tuple #[]) ∧ ∃ v', RS E z w0 W' b tv a2 d v' (L ++ (M ++ (ns2 ++ [nd0 8]))) ∧ Fr W W' b v v') := fun W v h => by
            have := put_one h (nd0 8) (by rw [List.length_append]; omega)
            rw [List.append_assoc, List.append_assoc] at this
            exact this
          have hll : (L ++ (M ++ (ns2 ++ [nd0 8]))).length ≤ 10027010 * a2 := by
            rw [List.length_append] at hlm
            rw [List.length_append, List.length_append, List.length_append, List.length_singleton]
            omega
          clear HR HGa hr hkk hadv hln
          go_wp2_with fail
          refine (HH.out ()).mono ?_
          rintro e w1 ⟨rfl, hb⟩
          have HY := (show Hid _ from HW.out.later hb)
          have HFY := (show Hid (Fr wr w1 b v v) from Fr.below b v hb)
          clear hb HH
          go_wp2_with fail
          refine (HP.out _ HY.out).mono ?_
          rintro e w2 ⟨rfl, h2, hf2⟩
          have HX := (show Hid _ from h2)
          have HFX := (show Hid (Fr wr w2 b v v) from HFY.out.trans hf2)
          clear h2 hf2 HY HFY HP
          go_wp2_with fail
          refine (HSa.out _ HX.out).mono ?_
          rintro e w3 ⟨rfl, v3, h3, hf3⟩
          have H3 := (show Hid _ from h3)
          have HF3 := (show Hid (Fr W w3 b v0 v3) from HFW.out.trans (HFX.out.trans hf3))
          clear h3 hf3 HX HSa HFX
          go_wp2_with fail
          refine (HPu.out _ _ H3.out).mono ?_
          rintro e w4 ⟨rfl, v4, h4, hf4⟩
          have H4 := (show Hid _ from h4)
          have HF4 := (show Hid (Fr W w4 b v0 v4) from HF3.out.trans hf4)
          clear h4 hf4 H3 HF3 HPu
          go_wp2_with fail
          go_roundw
          case rel => exact ⟨a2, v4, _, by omega, hal, hll, H4, HF4, HV⟩
          case measure => rw [HW.out.nx, H4.out.nx]; omega
      · have HV : Hid (R0 = .inl (a, M)) := by
          show R0 = _
          rw [HR.out, HGa.out, if_neg hkk]
          show Sum.inl (a, M ++ []) = _
          rw [List.append_nil]
        have t1 : (t.kd == 7) = false := by rw [hk]; exact beq_eq_false_iff_ne.2 hkk
        clear HR HGa hkk ht hk HS
        go_wp2_with fail
        refine (HH.out ()).mono ?_
        rintro e w2 ⟨rfl, hb⟩
        have HY := (show Hid _ from HW.out.later hb)
        have HFY := (show Hid (Fr wr w2 b v v) from Fr.below b v hb)
        clear hb HH HW
        go_wp2_with fail
        go_end0
        subst hv0; show PoR E z w0 b tv d W _ L R0 _ _
        rw [HV.out]
        exact ⟨rfl, _, HY.out, HFW.out.trans HFY.out⟩
set_option maxRecDepth 100000 in
set_option maxHeartbeats 8000000 in
theorem seq_any {E : PE} (hE : OkE E) {z : Nat} {w0 : World} {b : Nat} {tv : Value} {i d : Nat} (HS0 : ∀ a, i ≤ a → a ≤ E.l.length → Ct 138 E z w0 b tv a d (gN E 4 a d)) : Ct 109 E z w0 b tv i d (gN E 2 i d) := by
  intro W v L h hL
  have hi := h.hi
  have hlen := hE.len
  have HS : Hid (∀ a, i ≤ a → a ≤ E.l.length → Ct 138 E z w0 b tv a d (gN E 4 a d)) := HS0
  have H := (show Hid _ from h)
  have HE := (show Hid _ from hE)
  have HC : Hid (∀ _ : Unit, Calls Tryz.prog 138 #[.pointer (some ⟨b, 0, none⟩)] W fun e W' => PoR E z w0 b tv d W v L (gN E 4 i d) e W') := fun _ => HS0 i (Nat.le_refl _) hi W v L h hL
  have HG := (show Hid _ from g2 E i d hi)
  clear h hE HS0
  cases hr : gN E 4 i d with
  | inr q =>
    rw [hr] at HC HG
    have HV : Hid (gN E 2 i d = .inr q) := HG.out
    rw [HV.out]
    clear HG hr HS
    go_enter Tryz.func109, Tryz.ntmps109
    go_wp2_with fail
    refine (HC.out ()).mono ?_
    rintro e w1 ⟨rfl, hb⟩
    exact post_panic rfl ⟨rfl, hb⟩
  | inl p =>
    obtain ⟨a, ns⟩ := p
    rw [hr] at HC HG
    have hadv := gN_adv hi (by omega) hr
    have hlenN := (gN_len HE.out.rl hi (by omega) hr).1 (by omega)
    have HV : Hid (gN E 2 i d = ahd ns (gN E 3 a d)) := HG.out
    generalize gN E 2 i d = R0 at *
    have hia := hadv.2.2 (by omega)
    have hal := hadv.2.1
    clear HG hr hadv
    go_enter Tryz.func109, Tryz.ntmps109
    go_wp2_with fail
    refine (HC.out ()).mono ?_
    rintro e w1 ⟨rfl, v1, h1, hf1⟩
    have H1 := (show Hid _ from h1)
    have HF1 := (show Hid (Fr W w1 b v v1) from hf1)
    obtain ⟨v0, hv0⟩ : ∃ u, u = v := ⟨_, rfl⟩
    rw [← hv0] at HF1
    clear HC h1 hf1
    go_wp2_with fail
    go_loopw [4] (fun _ wr => ∃ (a : Nat) (v : Value) (M : List Nd), i < a ∧ a ≤ E.l.length ∧ (L ++ M).length ≤ 10027010 * a ∧ Hid (RS E z w0 wr b tv a d v (L ++ M)) ∧ Hid (Fr W wr b v0 v) ∧ Hid (R0 = ahd M (gN E 3 a d))) (fun _ wr => E.l.length - nxt b wr)
    case atStart => exact ⟨a, v1, ns, hia, hal, by rw [List.length_append]; omega, H1, HF1, HV⟩
    case round =>
      obtain ⟨a, v, M, ha1, ha2, hlm, HW, HFW, HR⟩ := hrel
      clear H1 HF1 HV hia hal hlenN
      have HGa := (show Hid _ from g3 E a d ha2)
      have hz := HE.out.z
      have HH : Hid (∀ _ : Unit, Calls Tryz.prog 139 #[.pointer (some ⟨b, 0, none⟩)] wr fun e W' => e = .returned (.bool (bgn E a)) ∧ Below wr.heap.size wr W') := fun _ => beginsPre_any HW.out hz
      by_cases hkk : bgn E a = true
      · have hlt := bgn_lt hkk
        rw [hkk] at HH
        have HSa : Hid (∀ W, RS E z w0 W b tv (a) d v (L ++ M) → Calls Tryz.prog 138 #[.pointer (some ⟨b, 0, none⟩)] W fun e W' => PoR E z w0 b tv d W v (L ++ M) (gN E 4 (a) d) e W') := fun W h => HS.out (a) (by omega) (by omega) W v _ h (by omega)
        cases hr : gN E 4 (a) d with
        | inr q =>
          have HV : Hid (R0 = .inr q) := by
            show R0 = _
            rw [HR.out, HGa.out, if_pos hkk, hr]
            rfl
          rw [hr] at HSa
          clear HR HGa hr hkk
          go_wp2_with fail
          refine (HH.out ()).mono ?_
          rintro e w1 ⟨rfl, hb⟩
          have HX := (show Hid _ from HW.out.later hb)
          have HFX := (show Hid (Fr wr w1 b v v) from Fr.below b v hb)
          clear hb HH
          go_wp2_with fail
          refine (HSa.out _ HX.out).mono ?_
          rintro e w3 ⟨rfl, hb⟩
          exact post_panic (P := Tryz.prog) (fn := Tryz.f109) rfl (by subst hv0; show PoR E z w0 b tv d W _ L R0 _ _; rw [HV.out]; exact ⟨rfl, hb⟩)
        | inl p =>
          obtain ⟨a2, ns2⟩ := p
          have hadv := gN_adv (i := a) (by omega) (by omega) hr
          have hln := (gN_len HE.out.rl (i := a) (by omega) (by omega) hr).1 (by omega)
          have hia := hadv.2.2 (by omega)
          have hal := hadv.2.1
          have HV : Hid (R0 = ahd (M ++ (ns2 ++ [nd0 7])) (gN E 3 a2 d)) := by
            show R0 = _
            rw [HR.out, HGa.out, if_pos hkk, hr]
            show ahd M (ahd (ns2 ++ [nd0 7]) (gN E 3 a2 d)) = _
            rw [ahd_ahd]
          rw [hr] at HSa
          have HPu : Hid (∀ W v, RS E z w0 W b tv a2 d v (L ++ M ++ ns2) → Calls Tryz.prog 110 #[.pointer (some ⟨b, 0, none⟩), .slice (some ⟨W.heap.size, 0, none⟩) 1 1] (W.alloc (.cells #[.int .i64 7, .int .i64 0, .string ⟨#[]⟩, .int .u64 0, .int .u64 0, .int .u64 0, .int .u64 0] 51)) fun e W' => e = .returned (.tuple #[]) ∧ ∃ v', RS E z w0 W' b tv a2 d v' (L ++ (M ++ (ns2 ++ [nd0 7]))) ∧ Fr W W' b v v') := fun W v h => by
            have := put_one h (nd0 7) (by rw [List.length_append]; omega)
            rw [List.append_assoc, List.append_assoc] at this
            exact this
          have hll : (L ++ (M ++ (ns2 ++ [nd0 7]))).length ≤ 10027010 * a2 := by
            rw [List.length_append] at hlm
            rw [List.length_append, List.length_append, List.length_append, List.length_singleton]
            omega
          clear HR HGa hr hkk hadv hln
          go_wp2_with fail
          refine (HH.out ()).mono ?_
          rintro e w1 ⟨rfl, hb⟩
          have HX := (show Hid _ from HW.out.later hb)
          have HFX := (show Hid (Fr wr w1 b v v) from Fr.below b v hb)
          clear hb HH
          go_wp2_with fail
          refine (HSa.out _ HX.out).mono ?_
          rintro e w3 ⟨rfl, v3, h3, hf3⟩
          have H3 := (show Hid _ from h3)
          have HF3 := (show Hid (Fr W w3 b v0 v3) from HFW.out.trans (HFX.out.trans hf3))
          clear h3 hf3 HX HSa HFX
          go_wp2_with fail
          refine (HPu.out _ _ H3.out).mono ?_
          rintro e w4 ⟨rfl, v4, h4, hf4⟩
          have H4 := (show Hid _ from h4)
          have HF4 := (show Hid (Fr W w4 b v0 v4) from HF3.out.trans hf4)
          clear h4 hf4 H3 HF3 HPu
          go_wp2_with fail
          go_roundw
          case rel => exact ⟨a2, v4, _, by omega, hal, hll, H4, HF4, HV⟩
          case measure => rw [HW.out.nx, H4.out.nx]; omega
      · have HV : Hid (R0 = .inl (a, M)) := by
          show R0 = _
          rw [HR.out, HGa.out, if_neg hkk]
          show Sum.inl (a, M ++ []) = _
          rw [List.append_nil]
        rw [Bool.eq_false_iff.2 hkk] at HH
        clear HR HGa hkk HS
        go_wp2_with fail
        refine (HH.out ()).mono ?_
        rintro e w2 ⟨rfl, hb⟩
        have HY := (show Hid _ from HW.out.later hb)
        have HFY := (show Hid (Fr wr w2 b v v) from Fr.below b v hb)
        clear hb HH HW
        go_wp2_with fail
        go_end0
        subst hv0; show PoR E z w0 b tv d W _ L R0 _ _
        rw [HV.out]
        exact ⟨rfl, _, HY.out, HFW.out.trans HFY.out⟩
end Go.Proofs.YtkihfkcmcdiajaaGreatDoor.N
