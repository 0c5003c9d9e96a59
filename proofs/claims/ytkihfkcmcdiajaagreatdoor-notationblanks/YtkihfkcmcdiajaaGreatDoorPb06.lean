/- DERIVED. Plain mathematics and walks, laid together (6). -/
import Derived.Test.YtkihfkcmcdiajaaGreatDoorPb05
set_option maxRecDepth 100000
set_option maxHeartbeats 8000000
namespace Go.Proofs.YtkihfkcmcdiajaaGreatDoor.R
open Go.RowKit
def zjo (ss : List zbi) : List Nd := if ss.length = 0 then [(2, 0#256)] else zfU ss ss.length
def PnV (w w' : World) (lo hi : Int) (e : Ending) : Prop :=
 if bdB lo = true /\ bdB hi = true then
  (if lo <= hi then ∃ v, e = .returned (.tuple #[v, .int .i64 0]) /\ w'.ownsRow w.heap.size 51 7 v (zjo (zdy lo hi)).length (ndc (zjo (zdy lo hi))) else e = .returned (.tuple #[.slice none 0 0, .int .i64 1]))
 else e = .returned (.tuple #[.slice none 0 0, .int .i64 30])
theorem zeH {w w' : World} (h : w.grownBy w' none) : Below w.heap.size w w' := ⟨h.os, h.tape, h.output, h.size, fun k hk => h.block k hk (by simp)⟩
theorem zmo (w : World) (op : Int) : (w.alloc (.cells (ndZ op) 51)).ownsRow w.heap.size 51 7 (.slice (some ⟨w.heap.size, 0, none⟩) 1 1) 1 (ndc [(op, 0#256)]) := by
 rw [zex, <- zgs]
 exact ⟨rfl, .inr ⟨w.heap.size, 1, ndZ op, rfl, Nat.le_refl _, heap_alloc_new w _, Nat.le_refl _, by unfold maxLen; omega, rfl, rfl⟩⟩
theorem ShV.err {w w' : World} {lo hi : Int} {e : Ending} (h : ShV w w' lo hi e) : (∃ c, e = .returned (.tuple #[.slice none 0 0, .int .i64 c]) /\ c ≠ 0 /\ ∀ w2 w3 e2, e2 = .returned (.tuple #[.slice none 0 0, .int .i64 c]) -> PnV w2 w3 lo hi e2) ∨
  ((∃ v xs, e = .returned (.tuple #[v, .int .i64 0]) /\ RR w' w.heap.size v (zdy lo hi) xs) /\ ∀ w2 w3 e2, (∃ v, e2 = .returned (.tuple #[v, .int .i64 0]) /\ w3.ownsRow w2.heap.size 51 7 v (zjo (zdy lo hi)).length (ndc (zjo (zdy lo hi)))) -> PnV w2 w3 lo hi e2) := by
 unfold ShV at h
 split at h
 ·next q =>
  split at h
  ·next q2 => exact .inr ⟨h, fun _ _ _ h2 => by unfold PnV; rw [if_pos q, if_pos q2]; exact h2⟩
  ·next q2 => exact .inl ⟨1, h, by omega, fun _ _ _ h2 => by unfold PnV; rw [if_pos q, if_neg q2]; exact h2⟩
 ·next q => exact .inl ⟨30, h, by omega, fun _ _ _ h2 => by unfold PnV; rw [if_neg q]; exact h2⟩
theorem zha (lo hi : Int) (w : World) (hv : VB w) : Calls Tryz.prog 191 #[.int .i64 lo, .int .i64 hi] w fun e w' => PnV w w' lo hi e /\ Below w.heap.size w w' := by
 obtain ⟨i0, hinf, hz0, hz1, hz2⟩ := info_parts Tryz.info80
 have HS : Hid (Calls Tryz.prog 195 #[.int .i64 lo, .int .i64 hi] w fun e w' => ShV w w' lo hi e /\ Below w.heap.size w w') := ziM lo hi w hv
 have HO := hO (zeG lo hi)
 have HLn := hO (zhT lo hi 5)
 rw [zfS] at HLn
 clear hv
 go_enter Tryz.func191, Tryz.ntmps191
 go_wp2_with fail
 refine HS.out.mono ?_
 rintro e w1 ⟨hsh, hb1⟩
 have HB1 := hO hb1
 clear hb1 HS
 rcases hsh.err with ⟨c, rfl, hc, hP⟩ | ⟨⟨sv, xs, rfl, hR⟩, hP⟩
 ·have HP := hO hP
  have ec : (c != 0) = true := bne_iff_ne.2 hc
  clear hsh hP hc
  go_wp2
  go_ret2
  exact ⟨HP.out _ _ _ rfl, HB1.out⟩
 ·have HP := hO hP
  have HR := hO hR
  clear hsh hP
  generalize zdy lo hi = ss at *
  have hlx := hR.len
  obtain ⟨A, cs, rfl⟩ : ∃ A cs, sv = .slice A ss.length cs := by
   rcases hR.o.2 with ⟨rfl, h0⟩ | ⟨g, cap, cur, rfl, _⟩
   ·exact ⟨none, 0, by rw [<- hlx, h0]⟩
   ·exact ⟨_, _, by rw [hlx]⟩
  clear hR hlx
  by_cases hn : ss.length = 0
  ·have HE : Hid (zjo ss = [(2, 0#256)]) := (by show _ = _; unfold zjo; rw [if_pos hn])
   have e0 : ((ss.length : Int) == 0) = true := by rw [hn]; rfl
   have HN := hO (zmo w1 2)
   have HB2 : Hid (Below w.heap.size w (w1.alloc (.cells (ndZ 2) 51))) := HB1.out.alloc HB1.out.size _
   have hz1' := HB1.out.size
   clear HO HR HLn hn
   generalize ss.length = m at *
   go_wp2
   go_ret2
   exact ⟨HP.out _ _ _ ⟨_, rfl, by rw [HE.out]; exact zbI HN.out hz1'⟩, HB2.out⟩
  ·have HE : Hid (zjo ss = zfU ss ss.length) := (by show _ = _; unfold zjo; rw [if_neg hn])
   have e0 : ((ss.length : Int) == 0) = false := bF (by omega)
   have HG : Hid (∀ k, k < ss.length -> ∃ s, ss[k]? = some s) := fun k hk => ⟨_, List.getElem?_eq_getElem hk⟩
   have HPl : Hid (∀ k, (zfU ss k).length <= 9 * k) := fun k => zhW ss k fun s hs => (HO.out s hs).2.2
   clear hn
   go_wp2_with fail
   go_loopw [8, 27] (fun u t wr => ∃ k : Nat, k <= ss.length /\ t = .int .i64 k /\ Hid (AtN w1 wr w1.heap.size (.slice none 0 0) u (zfU ss k))) (fun _ t _ => ss.length - (intOf t).toNat)
   case atStart => exact ⟨0, by omega, by go_num, ⟨World.ownsRow_nil _ _ _ _, World.grownBy.refl _ _, fun k e => .inl e⟩⟩
   case round =>
    obtain ⟨k, hk, rfl, HW⟩ := hrel
    by_cases hlt : k < ss.length
    ·obtain ⟨s, hs⟩ := HG.out k hlt
     have HBw : Hid (Below w1.heap.size w1 wr) := zeH HW.out.g
     obtain ⟨g, cap, gx, cx, hA, hgl, _, hcell, hgx, hspl⟩ := (HR.out.below HBw.out).get hs
     cases hA
     have HI : Hid (zfU ss (k + 1) = (zfU ss k ++ zep s s.length) ++ (if 0 < k then [(8, 0#256)] else [])) := (by show _ = _; rw [zdB]; unfold ptI; rw [hs, List.append_assoc])
     obtain ⟨ho1, _, ho3⟩ := HO.out s (List.mem_of_getElem? hs)
     have hplk := HPl.out k
     have hln := HLn.out
     obtain ⟨gx0, hgx0⟩ : ∃ q : Nat, gx < w1.heap.size := ⟨0, by
      obtain ⟨g', cap', gx', cx', hA', _, _, hc', hgx', _⟩ := HR.out.get hs
      cases hA'
      have e1 := HBw.out.cell (p := ⟨g, k, none⟩) (World.block_lt_of_cell? w1 _ hc')
      rw [hcell] at e1
      rw [hc'] at e1
      cases e1
      exact hgx'⟩
     have HAS : Hid (Calls Tryz.prog 196 #[u8, .slice (some ⟨gx, 0, none⟩) s.length cx] wr fun e w' => ∃ v', e = .returned v' /\ AtN wr w' w1.heap.size u8 v' (zfU ss k ++ zep s s.length)) := zeF u8 (zfU ss k) w1.heap.size gx cx s ho1 ho3 (by omega) wr HW.out.o HBw.out.size hspl hgx (fun e => by
      rcases HW.out.k gx e with q | q
      ·cases q
      ·omega)
     have z0 : (0 : Int) <= (k : Int) := by omega
     have z1 : (k : Int) < (ss.length : Int) := by omega
     have z9 : (ss.length : Int) <= 1114112 := by omega
     have hndl := zfV s s.length
     have hLl : (zfU ss k ++ zep s s.length).length <= 20000000 := by rw [List.length_append]; omega
     generalize hM : zfU ss k ++ zep s s.length = M at *
     clear hM hplk hln hspl ho1 hndl
     go_wp2_with fail
     refine HAS.out.mono ?_
     rintro e w2 ⟨v2, rfl, hA2⟩
     have HW2 := (show Hid (AtN w1 w2 w1.heap.size (.slice none 0 0) v2 M) from ⟨hA2.o, HW.out.g.andThen hA2.g (fun j e => by
      rcases HW.out.k j e with q | q
      ·cases q
      ·exact .inl q), fun j e => by
       rcases hA2.k j e with q | q
       ·exact HW.out.k j q
       ·have := HBw.out.size; exact .inr (by omega)⟩)
     have hsz2 := hA2.g.size
     have hszw := HBw.out.size
     clear hA2 HAS HW HBw hcell
     by_cases hk0 : 0 < k
     ·have z2 : (0 : Int) < (k : Int) := by omega
      have hO3 := HW2.out.o
      have HI2 : Hid (zfU ss (k + 1) = M ++ [(8, 0#256)]) := (by show _ = _; rw [HI.out, if_pos hk0])
      go_wp2_with (at_builtin; refine wpList_append_lies _ rfl _ _ 34 rfl w1.heap.size 51 i0 (.agg #[.int .i64 0, .int .i64 0, .string ⟨#[]⟩, .int .u64 0, .int .u64 0, .int .u64 0, .int .u64 0]) 7 64 Tryz.underlying34 hinf hz0 hz1 hz2 rfl (by decide) _ _ _ rfl (hO3.alloc _) ⟨w2.heap.size, 0, none⟩ 1 1 (ndZ 8).toList rfl rfl (zhX w2 (ndZ 8)) (by rw [zgs]; exact zgn _) (by decide) ?c3 ?c4 ?c5 (w2.heap.size + 1) (by simp) ?_)
      case c3 => unfold maxLen; omega
      case c4 => omega
      case c5 => simp; omega
      intro g2 cap2 w4 hown hgrow hat hlt4
      have HW4 := (show Hid (AtN w1 w4 w1.heap.size (.slice none 0 0) (.slice (some ⟨g2, 0, none⟩) (M.length + 1) cap2) (zfU ss (k + 1))) from (by
       rw [HI2.out]
       exact HW2.out.push (n := (8, 0#256)) (by rw [<- zgs]; exact hown) hgrow hat))
      clear hown hgrow hat hO3 HW2
      go_wp2
      go_roundw
      case rel => exact ⟨k + 1, by omega, by go_num, HW4⟩
      case measure => simp [intOf]; omega
     ·have hk00 : k = 0 := by omega
      have HI2 : Hid (zfU ss (k + 1) = M) := (by show _ = _; rw [HI.out, if_neg hk0, List.append_nil])
      rw [<- HI2.out] at HW2
      subst hk00
      go_wp2
      go_roundw
      case rel => exact ⟨0 + 1, by omega, by go_num, HW2⟩
      case measure => simp [intOf]; omega
    ·obtain rfl : k = ss.length := by omega
     have HB3 : Hid (Below w.heap.size w wr) := HB1.out.trans ((zeH HW.out.g).mono HB1.out.size)
     have hz := HB1.out.size
     rw [<- HE.out] at HW
     clear HG HR HO HPl HE
     go_wp2
     go_ret2
     exact ⟨HP.out _ _ _ ⟨_, rfl, zbI HW.out.o hz⟩, HB3.out⟩
end Go.Proofs.YtkihfkcmcdiajaaGreatDoor.R
namespace Go.Proofs.YtkihfkcmcdiajaaGreatDoor.N
open Go.RowKit
def cvN (n : R.Nd) : Nd := ⟨n.1, 0, ⟨#[]⟩, wd n.2 0, wd n.2 1, wd n.2 2, wd n.2 3⟩
theorem zoL (l : List R.Nd) : R.ndc l = T.ndc (l.map cvN) := by
 unfold R.ndc T.ndc
 rw [List.flatMap_map]
 rfl
def rnP (lo hi : Int) : List Nd := (R.zjo (R.zdy lo hi)).map cvN
def tmL (tx : ByteArray) : List Nd := [⟨1, 0, ⟨#[]⟩, 0, 0, 0, 0⟩, ⟨22, 0, tx, 0, 0, 0, 0⟩]
theorem ck_tm (tx : ByteArray) : ((T.ck (tmL tx)).2 == 0) = T.tmB tx := by
 have e : (⟨#[]⟩ : ByteArray) = ByteArray.empty := rfl
 cases h : T.tmB tx <;> simp [tmL, T.ck, T.zeh, T.er, T.alE, T.fdF, T.txF, T.nuF, T.seF, T.ar, T.run, T.pt, T.mk, T.arN, T.ze1, h, e]
theorem rd_two (w : World) (a b : Nd) : T.RdN (w.alloc (.cells #[.int .i64 a.op, .int .i64 a.nn, .string a.tx, .int .u64 a.s0, .int .u64 a.s1, .int .u64 a.s2, .int .u64 a.s3, .int .i64 b.op, .int .i64 b.nn, .string b.tx, .int .u64 b.s0, .int .u64 b.s1, .int .u64 b.s2, .int .u64 b.s3] 51)) (some ⟨w.heap.size, 0, none⟩) [a, b] := fun _ => by
 refine ⟨w.heap.size, 0, rfl, by rw [World.size_alloc]; omega, ?_⟩
 refine T.zjU (B := w.heap.size) (n := 2) (cap := 2) (xs := []) ?_
 rw [List.append_nil]
 exact ⟨rfl, .inr ⟨w.heap.size, 2, _, rfl, Nat.le_refl _, heap_alloc_new w _, Nat.le_refl _, by unfold maxLen; omega, rfl, rfl⟩⟩
theorem zj9 (tx : ByteArray) (hs : tx.size <= 140737488355328) (W : World) : Calls Tryz.prog 185 #[.string tx] W fun e W' => e = .returned (.bool (T.tmB tx)) /\ Below W.heap.size W W' := by
 have HC : Hid (∀ _ : Unit, Calls Tryz.prog 16 #[.slice (some ⟨W.heap.size, 0, none⟩) 2 2] (W.alloc (.cells #[.int .i64 1, .int .i64 0, .string ⟨#[]⟩, .int .u64 0, .int .u64 0, .int .u64 0, .int .u64 0, .int .i64 22, .int .i64 0, .string tx, .int .u64 0, .int .u64 0, .int .u64 0, .int .u64 0] 51)) fun e w' => e = .returned (.tuple #[.int .i64 (T.ck (tmL tx)).1, .int .i64 (T.ck (tmL tx)).2]) /\ Below (W.heap.size + 1) (W.alloc (.cells #[.int .i64 1, .int .i64 0, .string ⟨#[]⟩, .int .u64 0, .int .u64 0, .int .u64 0, .int .u64 0, .int .i64 22, .int .i64 0, .string tx, .int .u64 0, .int .u64 0, .int .u64 0, .int .u64 0] 51)) w') := fun _ => by
  have h := T.zgm (tmL tx) (some ⟨W.heap.size, 0, none⟩) 2 (by show 2 <= _; omega) (by intro n hn; rcases List.mem_cons.1 hn with rfl | hn; exact Nat.zero_le _; rw [List.mem_singleton.1 hn]; exact hs) _ (rd_two W _ _)
  rw [World.size_alloc] at h
  exact h
 have HE : Hid (((T.ck (tmL tx)).2 == 0) = T.tmB tx) := ck_tm tx
 generalize T.ck (tmL tx) = r at *
 go_enter Tryz.func185, Tryz.ntmps185
 go_wp2_with fail
 refine (HC.out ()).mono ?_
 rintro e w1 ⟨rfl, hb⟩
 have HB : Hid (Below W.heap.size W w1) := (zaa W _).trans (hb.mono (Nat.le_succ _))
 clear hb HC
 go_wp2_with fail
 go_ret
 exact ⟨by rw [<- HE.out]; rfl, HB.out⟩
def lfN (t : Tk) : List Nd := if t.kd = 2 then (if t.tx.size = 0 then [nd0 1] else [⟨4, 0, t.tx, 0, 0, 0, 0⟩]) else if t.kd = 3 ∨ t.kd = 28 then [⟨5, 0, ⟨#[]⟩, t.s0, t.s1, t.s2, t.s3⟩] else if t.kd = 5 then rnP t.nn t.s0 else if t.kd = 18 then [nd0 3] else if t.kd = 30 then [nd0 2] else if t.kd = 1 then [⟨6, 0, t.tx, 0, 0, 0, 0⟩] else [nd0 1]
theorem own_nd (W : World) (n : Nd) (B : Nat) (hB : B <= W.heap.size) : (W.alloc (.cells #[.int .i64 n.op, .int .i64 n.nn, .string n.tx, .int .u64 n.s0, .int .u64 n.s1, .int .u64 n.s2, .int .u64 n.s3] 51)).ownsRow B 51 7 (.slice (some ⟨W.heap.size, 0, none⟩) 1 1) 1 (T.ndc [n]) := by
 rw [T.zex]
 exact ⟨rfl, .inr ⟨W.heap.size, 1, _, rfl, hB, heap_alloc_new W _, Nat.le_refl _, by unfold maxLen; omega, rfl, rfl⟩⟩
theorem zcS (w : World) (a b : Obj) (n : Nd) : (((w.alloc a).alloc b).alloc (.cells #[.int .i64 n.op, .int .i64 n.nn, .string n.tx, .int .u64 n.s0, .int .u64 n.s1, .int .u64 n.s2, .int .u64 n.s3] 51)).ownsRow w.heap.size 51 7 (.slice (some ⟨w.heap.size + 1 + 1, 0, none⟩) 1 1) 1 (T.ndc [n]) := by
 have h := own_nd ((w.alloc a).alloc b) n w.heap.size (by rw [World.size_alloc, World.size_alloc]; omega)
 rwa [World.size_alloc, World.size_alloc] at h
theorem zcm (w : World) (a b c : Obj) : Below w.heap.size w (((w.alloc a).alloc b).alloc c) := (((Below.refl _ _).alloc (Nat.le_refl _) _).alloc (by rw [World.size_alloc]; omega) _).alloc (by rw [World.size_alloc, World.size_alloc]; omega) _
def LfV (w w' : World) (M : List Nd) (e : Ending) : Prop := ∃ v, e = .returned v /\ w'.ownsRow w.heap.size 51 7 v M.length (T.ndc M)
theorem zoM (t : Tk) (hk : t.kd = 18) (w : World) : Calls Tryz.prog 184 #[tkG t] w fun e w' => LfV w w' [nd0 3] e /\ Below w.heap.size w w' := by
 obtain ⟨kd, nn, fr, en, tx, s0, s1, s2, s3⟩ := t
 obtain rfl : kd = 18 := hk
 go_enter Tryz.func184, Tryz.ntmps184
 go_wp2_with fail
 go_ret
 exact ⟨⟨_, rfl, zcS w _ _ (nd0 3)⟩, zcm _ _ _ _⟩
theorem zoN (t : Tk) (hk : t.kd = 30) (w : World) : Calls Tryz.prog 184 #[tkG t] w fun e w' => LfV w w' [nd0 2] e /\ Below w.heap.size w w' := by
 obtain ⟨kd, nn, fr, en, tx, s0, s1, s2, s3⟩ := t
 obtain rfl : kd = 30 := hk
 go_enter Tryz.func184, Tryz.ntmps184
 go_wp2_with fail
 go_ret
 exact ⟨⟨_, rfl, zcS w _ _ (nd0 2)⟩, zcm _ _ _ _⟩
theorem leaf_1 (t : Tk) (hk : t.kd = 1) (w : World) : Calls Tryz.prog 184 #[tkG t] w fun e w' => LfV w w' [⟨6, 0, t.tx, 0, 0, 0, 0⟩] e /\ Below w.heap.size w w' := by
 obtain ⟨kd, nn, fr, en, tx, s0, s1, s2, s3⟩ := t
 obtain rfl : kd = 1 := hk
 go_enter Tryz.func184, Tryz.ntmps184
 go_wp2_with fail
 go_ret
 exact ⟨⟨_, rfl, zcS w _ _ (⟨6, 0, tx, 0, 0, 0, 0⟩)⟩, zcm _ _ _ _⟩
theorem leaf_3 (t : Tk) (hk : t.kd = 3) (w : World) : Calls Tryz.prog 184 #[tkG t] w fun e w' => LfV w w' [⟨5, 0, ⟨#[]⟩, t.s0, t.s1, t.s2, t.s3⟩] e /\ Below w.heap.size w w' := by
 obtain ⟨kd, nn, fr, en, tx, s0, s1, s2, s3⟩ := t
 obtain rfl : kd = 3 := hk
 go_enter Tryz.func184, Tryz.ntmps184
 go_wp2_with fail
 go_ret
 exact ⟨⟨_, rfl, zcS w _ _ (⟨5, 0, ⟨#[]⟩, s0, s1, s2, s3⟩)⟩, zcm _ _ _ _⟩
theorem zoO (t : Tk) (hk : t.kd = 28) (w : World) : Calls Tryz.prog 184 #[tkG t] w fun e w' => LfV w w' [⟨5, 0, ⟨#[]⟩, t.s0, t.s1, t.s2, t.s3⟩] e /\ Below w.heap.size w w' := by
 obtain ⟨kd, nn, fr, en, tx, s0, s1, s2, s3⟩ := t
 obtain rfl : kd = 28 := hk
 go_enter Tryz.func184, Tryz.ntmps184
 go_wp2_with fail
 go_ret
 exact ⟨⟨_, rfl, zcS w _ _ (⟨5, 0, ⟨#[]⟩, s0, s1, s2, s3⟩)⟩, zcm _ _ _ _⟩
theorem zoP (t : Tk) (hk : t.kd = 29) (w : World) : Calls Tryz.prog 184 #[tkG t] w fun e w' => LfV w w' [nd0 1] e /\ Below w.heap.size w w' := by
 obtain ⟨kd, nn, fr, en, tx, s0, s1, s2, s3⟩ := t
 obtain rfl : kd = 29 := hk
 go_enter Tryz.func184, Tryz.ntmps184
 go_wp2_with fail
 go_ret
 exact ⟨⟨_, rfl, zcS w _ _ (nd0 1)⟩, zcm _ _ _ _⟩
theorem zoQ (t : Tk) (hk : t.kd = 2) (ht : t.tx.size = 0) (w : World) : Calls Tryz.prog 184 #[tkG t] w fun e w' => LfV w w' [nd0 1] e /\ Below w.heap.size w w' := by
 obtain ⟨kd, nn, fr, en, tx, s0, s1, s2, s3⟩ := t
 obtain rfl : kd = 2 := hk
 have e1 : tx = ⟨#[]⟩ := by
  have h : tx.size = 0 := ht
  obtain ⟨d⟩ := tx
  rw [Array.eq_empty_of_size_eq_zero (show d.size = 0 from h)]
 subst e1
 clear ht
 go_enter Tryz.func184, Tryz.ntmps184
 go_wp2_with fail
 go_ret
 exact ⟨⟨_, rfl, zcS w _ _ (nd0 1)⟩, zcm _ _ _ _⟩
theorem leaf_2 (t : Tk) (hk : t.kd = 2) (ht : ¬ t.tx.size = 0) (w : World) : Calls Tryz.prog 184 #[tkG t] w fun e w' => LfV w w' [⟨4, 0, t.tx, 0, 0, 0, 0⟩] e /\ Below w.heap.size w w' := by
 obtain ⟨kd, nn, fr, en, tx, s0, s1, s2, s3⟩ := t
 obtain rfl : kd = 2 := hk
 have e1 : tx.toList.isEmpty = false := T.zjI ht
 clear ht
 go_enter Tryz.func184, Tryz.ntmps184
 go_wp2_with fail
 go_ret
 exact ⟨⟨_, rfl, zcS w _ _ (⟨4, 0, tx, 0, 0, 0, 0⟩)⟩, zcm _ _ _ _⟩
theorem leaf_5 (t : Tk) (hk : t.kd = 5) (hn : 0 <= t.nn /\ t.nn <= t.s0 /\ t.s0 <= 1114111) (w : World) (hv : R.VB w) : Calls Tryz.prog 184 #[tkG t] w fun e w' => LfV w w' (rnP t.nn t.s0) e /\ Below w.heap.size w w' := by
 obtain ⟨kd, nn, fr, en, tx, s0, s1, s2, s3⟩ := t
 obtain rfl : kd = 5 := hk
 dsimp only at hn ⊢
 have HP : Hid (∀ W, R.VB W -> Calls Tryz.prog 191 #[.int .i64 nn, .int .i64 s0] W fun e w' => (∃ v, e = .returned (.tuple #[v, .int .i64 0]) /\ w'.ownsRow W.heap.size 51 7 v (rnP nn s0).length (T.ndc (rnP nn s0))) /\ Below W.heap.size W w') := fun W h => by
  refine (R.zha nn s0 W h).mono ?_
  rintro e w' ⟨h1, h2⟩
  refine ⟨?_, h2⟩
  unfold R.PnV at h1
  rw [if_pos ⟨by unfold R.bdB; exact decide_eq_true (by omega), by unfold R.bdB; exact decide_eq_true (by omega)⟩, if_pos hn.2.1] at h1
  obtain ⟨v, h3, h4⟩ := h1
  exact ⟨v, h3, by unfold rnP; rw [List.length_map, <- zoL]; exact h4⟩
 have HV : Hid (R.VB w) := hv
 have u1 : IntKind.i64.wrap s0 = s0 := by rw [IntKind.wrap_i64]; omega
 clear hv hn
 generalize rnP nn s0 = M at *
 go_enter Tryz.func184, Tryz.ntmps184
 go_wp2_with fail
 have hb2 : ∀ a b : Obj, Below w.heap.size w ((w.alloc a).alloc b) := fun a b => ((Below.refl _ _).alloc (Nat.le_refl _) _).alloc (by rw [World.size_alloc]; omega) _
 refine (HP.out _ (HV.out.below (hb2 _ _) HV.out.lt)).mono ?_
 rintro e w1 ⟨⟨v, rfl, ho⟩, hb⟩
 have HO : Hid (w1.ownsRow w.heap.size 51 7 v M.length (T.ndc M) /\ Below w.heap.size w w1) := ⟨zbI ho (by rw [World.size_alloc, World.size_alloc]; omega), (hb2 _ _).trans (hb.mono (by rw [World.size_alloc, World.size_alloc]; omega))⟩
 clear ho hb hb2 HP HV
 go_wp2_with fail
 go_ret
 exact ⟨⟨v, rfl, HO.out.1⟩, HO.out.2⟩
theorem zmp (t : Tk) (hk : t.kd = 2 ∨ t.kd = 3 ∨ t.kd = 28 ∨ t.kd = 5 ∨ t.kd = 18 ∨ t.kd = 29 ∨ t.kd = 30 ∨ t.kd = 1) (hn : t.kd = 5 -> 0 <= t.nn /\ t.nn <= t.s0 /\ t.s0 <= 1114111) (w : World) (hv : R.VB w) : Calls Tryz.prog 184 #[tkG t] w fun e w' => LfV w w' (lfN t) e /\ Below w.heap.size w w' := by
 rcases hk with h | h | h | h | h | h | h | h
 ·by_cases q : t.tx.size = 0
  ·rw [show lfN t = [nd0 1] from by unfold lfN; rw [if_pos h, if_pos q]]; exact zoQ t h q w
  ·rw [show lfN t = [⟨4, 0, t.tx, 0, 0, 0, 0⟩] from by unfold lfN; rw [if_pos h, if_neg q]]; exact leaf_2 t h q w
 ·rw [show lfN t = [⟨5, 0, ⟨#[]⟩, t.s0, t.s1, t.s2, t.s3⟩] from by unfold lfN; rw [if_neg (by omega), if_pos (.inl h)]]; exact leaf_3 t h w
 ·rw [show lfN t = [⟨5, 0, ⟨#[]⟩, t.s0, t.s1, t.s2, t.s3⟩] from by unfold lfN; rw [if_neg (by omega), if_pos (.inr h)]]; exact zoO t h w
 ·rw [show lfN t = rnP t.nn t.s0 from by unfold lfN; rw [if_neg (by omega), if_neg (by omega), if_pos h]]; exact leaf_5 t h (hn h) w hv
 ·rw [show lfN t = [nd0 3] from by unfold lfN; rw [if_neg (by omega), if_neg (by omega), if_neg (by omega), if_pos h]]; exact zoM t h w
 ·rw [show lfN t = [nd0 1] from by unfold lfN; rw [if_neg (by omega), if_neg (by omega), if_neg (by omega), if_neg (by omega), if_neg (by omega), if_neg (by omega)]]; exact zoP t h w
 ·rw [show lfN t = [nd0 2] from by unfold lfN; rw [if_neg (by omega), if_neg (by omega), if_neg (by omega), if_neg (by omega), if_pos h]]; exact zoN t h w
 ·rw [show lfN t = [⟨6, 0, t.tx, 0, 0, 0, 0⟩] from by unfold lfN; rw [if_neg (by omega), if_neg (by omega), if_neg (by omega), if_neg (by omega), if_neg (by omega), if_pos h]]; exact leaf_1 t h w
theorem zka {rn : Int -> Int -> List Nd} (hr : ∀ a b, (rn a b).length + 1 <= 10027010) {t : Tk} {k2 : Int} {p : List Nd × Nat} (h : zcp rn t k2 = .inl p) : p.1.length + 1 <= 10027010 := by
 unfold zcp at h
 by_cases c0 : t.kd = 2
 ·rw [if_pos c0] at h
  cases h; first | exact hr _ _ | (show List.length _ + 1 <= _; simp; done) | (show (if _ then _ else _ : List Nd).length + 1 <= _; split <;> simp)
 rw [if_neg c0] at h
 by_cases c1 : t.kd = 3 ∨ t.kd = 28
 ·rw [if_pos c1] at h
  cases h; first | exact hr _ _ | (show List.length _ + 1 <= _; simp; done) | (show (if _ then _ else _ : List Nd).length + 1 <= _; split <;> simp)
 rw [if_neg c1] at h
 by_cases c2 : t.kd = 5
 ·rw [if_pos c2] at h
  cases h; first | exact hr _ _ | (show List.length _ + 1 <= _; simp; done) | (show (if _ then _ else _ : List Nd).length + 1 <= _; split <;> simp)
 rw [if_neg c2] at h
 by_cases c3 : t.kd = 18
 ·rw [if_pos c3] at h
  cases h; first | exact hr _ _ | (show List.length _ + 1 <= _; simp; done) | (show (if _ then _ else _ : List Nd).length + 1 <= _; split <;> simp)
 rw [if_neg c3] at h
 by_cases c4 : t.kd = 29
 ·rw [if_pos c4] at h
  cases h; first | exact hr _ _ | (show List.length _ + 1 <= _; simp; done) | (show (if _ then _ else _ : List Nd).length + 1 <= _; split <;> simp)
 rw [if_neg c4] at h
 by_cases c5 : t.kd = 30
 ·rw [if_pos c5] at h
  cases h; first | exact hr _ _ | (show List.length _ + 1 <= _; simp; done) | (show (if _ then _ else _ : List Nd).length + 1 <= _; split <;> simp)
 rw [if_neg c5] at h
 by_cases c6 : t.kd = 1
 ·rw [if_pos c6] at h
  cases h; first | exact hr _ _ | (show List.length _ + 1 <= _; simp; done) | (show (if _ then _ else _ : List Nd).length + 1 <= _; split <;> simp)
 rw [if_neg c6] at h
 by_cases c7 : t.kd = 16
 ·rw [if_pos c7] at h
  cases h
 rw [if_neg c7] at h
 by_cases c8 : t.kd = 19
 ·rw [if_pos c8] at h
  by_cases d : k2 = 20
  ·rw [if_pos d] at h
   cases h; show List.length _ + 1 <= _; simp
  ·rw [if_neg d] at h
   cases h
 rw [if_neg c8] at h
 by_cases c9 : t.kd = 21
 ·rw [if_pos c9] at h
  cases h
 rw [if_neg c9] at h
 by_cases c10 : t.kd = 23
 ·rw [if_pos c10] at h
  cases h
 rw [if_neg c10] at h
 cases h
theorem ziN {rn : Int -> Int -> List Nd} {t : Tk} {k2 : Int} {p : Int × List Nd} (h : zcp rn t k2 = .inr p) : p.2.length <= 1 := by
 unfold zcp at h
 by_cases c0 : t.kd = 2
 ·rw [if_pos c0] at h
  cases h
 rw [if_neg c0] at h
 by_cases c1 : t.kd = 3 ∨ t.kd = 28
 ·rw [if_pos c1] at h
  cases h
 rw [if_neg c1] at h
 by_cases c2 : t.kd = 5
 ·rw [if_pos c2] at h
  cases h
 rw [if_neg c2] at h
 by_cases c3 : t.kd = 18
 ·rw [if_pos c3] at h
  cases h
 rw [if_neg c3] at h
 by_cases c4 : t.kd = 29
 ·rw [if_pos c4] at h
  cases h
 rw [if_neg c4] at h
 by_cases c5 : t.kd = 30
 ·rw [if_pos c5] at h
  cases h
 rw [if_neg c5] at h
 by_cases c6 : t.kd = 1
 ·rw [if_pos c6] at h
  cases h
 rw [if_neg c6] at h
 by_cases c7 : t.kd = 16
 ·rw [if_pos c7] at h
  cases h; show List.length _ <= 1; simp
 rw [if_neg c7] at h
 by_cases c8 : t.kd = 19
 ·rw [if_pos c8] at h
  by_cases d : k2 = 20
  ·rw [if_pos d] at h
   cases h
  ·rw [if_neg d] at h
   cases h; show List.length _ <= 1; simp
 rw [if_neg c8] at h
 by_cases c9 : t.kd = 21
 ·rw [if_pos c9] at h
  cases h; show List.length _ <= 1; simp
 rw [if_neg c9] at h
 by_cases c10 : t.kd = 23
 ·rw [if_pos c10] at h
  cases h; show List.length _ <= 1; simp
 rw [if_neg c10] at h
 cases h; show List.length _ <= 1; simp
theorem PF_len (E : PE) (hr : ∀ a b, (E.rn a b).length + 1 <= 10027010) : ∀ (f m i d a : Nat) (ns : List Nd), i <= E.l.length -> (m = 5 -> i < E.l.length) -> PF E f m i d = .inl (a, ns) -> (m = 0 ∨ m = 2 ∨ m = 4 ∨ m = 5 -> ns.length + 1 <= 10027010 * (a - i)) /\ ns.length <= 10027010 * (a - i) := by
 intro f
 induction f with
 | zero => intro m i d a ns _ _ h; rw [PF] at h; cases h
 | succ f ih =>
  intro m i d a ns hi h5 h
  rw [PF] at h
  by_cases m0 : m = 0
  ·rw [if_pos m0] at h
   obtain ⟨a1, n1, r1, h⟩ := zaL h
   obtain ⟨n2, r2, e2⟩ := zaY h
   obtain ⟨x1, x2, x3⟩ := zbt E _ _ _ _ _ _ hi (by omega) r1
   obtain ⟨y1, y2, _⟩ := zbt E _ _ _ _ _ _ x2 (by omega) r2
   obtain ⟨u1, u2⟩ := ih _ _ _ _ _ hi (by omega) r1
   obtain ⟨v1, v2⟩ := ih _ _ _ _ _ x2 (by omega) r2
   have := u1 (by omega)
   dsimp only at y1 y2 e2 v2
   rw [e2, List.length_append]
   exact ⟨fun _ => by omega, by omega⟩
  rw [if_neg m0] at h
  by_cases m1 : m = 1
  ·rw [if_pos m1] at h
   by_cases k7 : kdA E i = 7
   ·have hlt := zby (E := E) (i := i) (by omega)
    rw [if_pos k7] at h
    obtain ⟨a1, n1, r1, h⟩ := zaL h
    obtain ⟨n2, r2, e2⟩ := zaY h
    obtain ⟨x1, x2, x3⟩ := zbt E _ _ _ _ _ _ (by omega) (by omega) r1
    obtain ⟨y1, y2, _⟩ := zbt E _ _ _ _ _ _ x2 (by omega) r2
    obtain ⟨u1, u2⟩ := ih _ _ _ _ _ (by omega) (by omega) r1
    obtain ⟨v1, v2⟩ := ih _ _ _ _ _ x2 (by omega) r2
    have := u1 (by omega)
    dsimp only at y1 y2 e2 v2
    rw [e2, List.length_append, List.length_append, List.length_singleton]
    exact ⟨fun q => by omega, by omega⟩
   ·rw [if_neg k7] at h
    cases h
    exact ⟨fun q => by omega, by simp⟩
  rw [if_neg m1] at h
  by_cases m2 : m = 2
  ·rw [if_pos m2] at h
   obtain ⟨a1, n1, r1, h⟩ := zaL h
   obtain ⟨n2, r2, e2⟩ := zaY h
   obtain ⟨x1, x2, x3⟩ := zbt E _ _ _ _ _ _ hi (by omega) r1
   obtain ⟨y1, y2, _⟩ := zbt E _ _ _ _ _ _ x2 (by omega) r2
   obtain ⟨u1, u2⟩ := ih _ _ _ _ _ hi (by omega) r1
   obtain ⟨v1, v2⟩ := ih _ _ _ _ _ x2 (by omega) r2
   have := u1 (by omega)
   dsimp only at y1 y2 e2 v2
   rw [e2, List.length_append]
   exact ⟨fun _ => by omega, by omega⟩
  rw [if_neg m2] at h
  by_cases m3 : m = 3
  ·rw [if_pos m3] at h
   by_cases kb : bgn E i = true
   ·have hlt := zd4 kb
    rw [if_pos kb] at h
    obtain ⟨a1, n1, r1, h⟩ := zaL h
    obtain ⟨n2, r2, e2⟩ := zaY h
    obtain ⟨x1, x2, x3⟩ := zbt E _ _ _ _ _ _ (by omega) (by omega) r1
    obtain ⟨y1, y2, _⟩ := zbt E _ _ _ _ _ _ x2 (by omega) r2
    obtain ⟨u1, u2⟩ := ih _ _ _ _ _ (by omega) (by omega) r1
    obtain ⟨v1, v2⟩ := ih _ _ _ _ _ x2 (by omega) r2
    have := u1 (by omega)
    dsimp only at y1 y2 e2 v2
    rw [e2, List.length_append, List.length_append, List.length_singleton]
    exact ⟨fun q => by omega, by omega⟩
   ·rw [if_neg kb] at h
    cases h
    exact ⟨fun q => by omega, by simp⟩
  rw [if_neg m3] at h
  by_cases m4 : m = 4
  ·rw [if_pos m4] at h
   by_cases kb : bgn E i = true
   ·have hlt := zd4 kb
    rw [if_pos kb] at h
    by_cases k8 : kdA E i = 8 ∨ kdA E i = 9
    ·rw [if_pos k8] at h
     split at h
     ·cases h
     ·obtain ⟨a1, n1, r1, h⟩ := zaL h
      cases h
      obtain ⟨x1, x2, x3⟩ := zbt E _ _ _ _ _ _ (by omega) (by omega) r1
      obtain ⟨u1, u2⟩ := ih _ _ _ _ _ (by omega) (by omega) r1
      have := u1 (by omega)
      rw [List.length_append, List.length_singleton]
      exact ⟨fun _ => by omega, by omega⟩
    ·rw [if_neg k8] at h
     obtain ⟨a1, n1, r1, h⟩ := zaL h
     obtain ⟨n2, r2, e2⟩ := zaY h
     obtain ⟨x1, x2, x3⟩ := zbt E _ _ _ _ _ _ (by omega) (fun _ => hlt) r1
     obtain ⟨y1, y2, _⟩ := zbt E _ _ _ _ _ _ x2 (by omega) r2
     obtain ⟨u1, u2⟩ := ih _ _ _ _ _ (by omega) (fun _ => hlt) r1
     obtain ⟨v1, v2⟩ := ih _ _ _ _ _ x2 (by omega) r2
     have := u1 (by omega)
     dsimp only at y1 y2 e2 v2
     rw [e2, List.length_append]
     exact ⟨fun _ => by omega, by omega⟩
   ·rw [if_neg kb] at h; cases h
  rw [if_neg m4] at h
  by_cases m5 : m = 5
  ·rw [if_pos m5] at h
   have hlt := h5 m5
   cases hp : zbU E i with
   | inl p =>
    rw [hp] at h
    cases h
    have h1 := zjK hlt hp
    have h2 := zka hr hp
    exact ⟨fun _ => by omega, by omega⟩
   | inr p =>
    rw [hp] at h
    dsimp only at h
    have h2 := ziN hp
    split at h
    ·cases h
    ·obtain ⟨a1, n1, r1, h⟩ := zaL h
     obtain ⟨x1, x2, x3⟩ := zbt E _ _ _ _ _ _ (by omega) (by omega) r1
     obtain ⟨u1, u2⟩ := ih _ _ _ _ _ (by omega) (by omega) r1
     have := u1 (by omega)
     split at h
     ·cases h
      rw [List.length_append]
      exact ⟨fun _ => by omega, by omega⟩
     ·cases h
  rw [if_neg m5] at h
  cases hp : zgh E i with
  | inr q =>
   rw [hp] at h
   cases q with
   | none => cases h; exact ⟨fun q => by omega, by simp⟩
   | some c => cases h
  | inl p =>
   rw [hp] at h
   dsimp only at h
   obtain ⟨n2, r2, e2⟩ := zaY h
   have h1 := zjJ hp
   obtain ⟨y1, y2, _⟩ := zbt E _ _ _ _ _ _ h1.2 (by omega) r2
   obtain ⟨v1, v2⟩ := ih _ _ _ _ _ h1.2 (by omega) r2
   dsimp only at y1 y2 e2 v2
   rw [e2, List.length_append, List.length_singleton]
   exact ⟨fun q => by omega, by omega⟩
theorem zdC {E : PE} (hr : ∀ a b, (E.rn a b).length + 1 <= 10027010) {m i d a : Nat} {ns : List Nd} (hi : i <= E.l.length) (h5 : m = 5 -> i < E.l.length) (h : gN E m i d = .inl (a, ns)) : (m = 0 ∨ m = 2 ∨ m = 4 ∨ m = 5 -> ns.length + 1 <= 10027010 * (a - i)) /\ ns.length <= 10027010 * (a - i) := PF_len E hr _ _ _ _ _ _ hi h5 h
theorem zkb (a b : Int) : (rnP a b).length + 1 <= 10027010 := by
 unfold rnP
 rw [List.length_map]
 have h1 := R.zhT a b 5
 rw [R.zfS] at h1
 unfold R.zjo
 split
 ·simp
 ·have h2 := R.zhW (R.zdy a b) (R.zdy a b).length (fun s hs => (R.zeG a b s hs).2.2)
  omega
structure OkE (E : PE) : Prop where
 len : E.l.length <= 65536
 rn : E.rn = rnP
 tm : E.tm = T.tmB
 rg : ∀ t ∈ E.l, t.kd = 5 -> 0 <= t.nn /\ t.nn <= t.s0 /\ t.s0 <= 1114111
 tx : ∀ t ∈ E.l, t.tx.size <= 65536
 n0 : ∀ t ∈ E.l, t.kd = 10 ∨ t.kd = 11 ∨ t.kd = 12 -> t.nn = 0
theorem OkE.rl {E : PE} (h : OkE E) : ∀ a b, (E.rn a b).length + 1 <= 10027010 := fun a b => by rw [h.rn]; exact zkb a b
theorem OkE.z {E : PE} (h : OkE E) : E.l.length <= 1000000 := Nat.le_trans h.len (by omega)
def PoR (E : PE) (z : Nat) (w0 : World) (b : Nat) (tv : Value) (d : Nat) (W : World) (v : Value) (L : List Nd) (r : PR) (e : Ending) (W' : World) : Prop := match r with
 | .inl p => e = .returned (.tuple #[]) /\ ∃ v', RS E z w0 W' b tv p.1 d v' (L ++ p.2) /\ Fr W W' b v v'
 | .inr q => e = pnc (plA E z q.1) q.2 /\ Below w0.heap.size w0 W'
def Ct (F : Nat) (E : PE) (z : Nat) (w0 : World) (b : Nat) (tv : Value) (i d : Nat) (r : PR) : Prop :=
 ∀ (W : World) (v : Value) (L : List Nd), RS E z w0 W b tv i d v L -> L.length <= 10027010 * i -> Calls Tryz.prog F #[.pointer (some ⟨b, 0, none⟩)] W fun e W' => PoR E z w0 b tv d W v L r e W'
def nxt (b : Nat) (W : World) : Nat := match W.cell? ⟨b, 1, none⟩ with
 | some (.int .i64 i) => i.toNat
 | _ => 0
theorem RS.nx {E : PE} {z : Nat} {w0 W : World} {b : Nat} {tv : Value} {i d : Nat} {v : Value} {L : List Nd} (h : RS E z w0 W b tv i d v L) : nxt b W = i := by
 unfold nxt
 rw [h.x.cl.2.1]
 rfl
theorem zfX {E : PE} {z : Nat} {w0 W : World} {b : Nat} {tv : Value} {i d : Nat} {v : Value} {L : List Nd} (h : RS E z w0 W b tv i d v L) (n : Nd) (hl : L.length + 1 <= 2000000000000) :
  Calls Tryz.prog 110 #[.pointer (some ⟨b, 0, none⟩), .slice (some ⟨W.heap.size, 0, none⟩) 1 1] (W.alloc (.cells #[.int .i64 n.op, .int .i64 n.nn, .string n.tx, .int .u64 n.s0, .int .u64 n.s1, .int .u64 n.s2, .int .u64 n.s3] 51)) fun e W' => e = .returned (.tuple #[]) /\ ∃ v', RS E z w0 W' b tv i d v' (L ++ [n]) /\ Fr W W' b v v' := by
 refine (zjW (h.later (zaa W _)) [n] W.heap.size 1 (by simp) hl (by rw [T.zex]; exact World.news_of_block (t := 51) (fr := (0, 0)) (heap_alloc_new W _))).mono ?_
 rintro e w' ⟨h1, v', h2, h3⟩
 exact ⟨h1, v', h2, (Fr.below b v (zaa W _)).trans h3⟩
theorem zkc {E : PE} (hE : OkE E) {z : Nat} {w0 : World} {b : Nat} {tv : Value} {i d : Nat} (HS0 : ∀ a, i <= a -> a <= E.l.length -> Ct 109 E z w0 b tv a d (gN E 2 a d)) : Ct 81 E z w0 b tv i d (gN E 0 i d) := by
 intro W v L h hL
 have hi := h.hi
 have hlen := hE.len
 have HS : Hid (∀ a, i <= a -> a <= E.l.length -> Ct 109 E z w0 b tv a d (gN E 2 a d)) := HS0
 have H := hO h
 have HE := hO hE
 have HC : Hid (∀ _ : Unit, Calls Tryz.prog 109 #[.pointer (some ⟨b, 0, none⟩)] W fun e W' => PoR E z w0 b tv d W v L (gN E 2 i d) e W') := fun _ => HS0 i (Nat.le_refl _) hi W v L h hL
 have HG := hO (g0 E i d hi)
 clear h hE HS0
 cases hr : gN E 2 i d with
 | inr q =>
  rw [hr] at HC HG
  have HV : Hid (gN E 0 i d = .inr q) := HG.out
  rw [HV.out]
  clear HG hr HS
  go_enter Tryz.func81, Tryz.ntmps81
  go_wp2_with fail
  refine (HC.out ()).mono ?_
  rintro e w1 ⟨rfl, hb⟩
  exact zaf rfl ⟨rfl, hb⟩
 | inl p =>
  obtain ⟨a, ns⟩ := p
  rw [hr] at HC HG
  have hadv := zd5 hi (by omega) hr
  have hlenN := (zdC HE.out.rl hi (by omega) hr).1 (by omega)
  have HV : Hid (gN E 0 i d = ahd ns (gN E 1 a d)) := HG.out
  generalize gN E 0 i d = R0 at *
  have hia := hadv.2.2 (by omega)
  have hal := hadv.2.1
  clear HG hr hadv
  go_enter Tryz.func81, Tryz.ntmps81
  go_wp2_with fail
  refine (HC.out ()).mono ?_
  rintro e w1 ⟨rfl, v1, h1, hf1⟩
  have H1 := hO h1
  have HF1 : Hid (Fr W w1 b v v1) := hf1
  obtain ⟨v0, hv0⟩ : ∃ u, u = v := ⟨_, rfl⟩
  rw [<- hv0] at HF1
  clear HC h1 hf1
  go_wp2_with fail
  go_loopw [4] (fun _ wr => ∃ (a : Nat) (v : Value) (M : List Nd), i < a /\ a <= E.l.length /\ (L ++ M).length <= 10027010 * a /\ Hid (RS E z w0 wr b tv a d v (L ++ M)) /\ Hid (Fr W wr b v0 v) /\ Hid (R0 = ahd M (gN E 1 a d))) (fun _ wr => E.l.length - nxt b wr)
  case atStart => exact ⟨a, v1, ns, hia, hal, by rw [List.length_append]; omega, H1, HF1, HV⟩
  case round =>
   obtain ⟨a, v, M, ha1, ha2, hlm, HW, HFW, HR⟩ := hrel
   clear H1 HF1 HV hia hal hlenN
   have HGa := hO (g1 E a d ha2)
   obtain ⟨t, ht, hk, _, _⟩ := zav E z ha2
   have HH : Hid (∀ _ : Unit, Calls Tryz.prog 46 #[.pointer (some ⟨b, 0, none⟩)] wr fun e W' => e = .returned (.agg #[.int .i64 t.kd, .int .i64 t.nn, .int .i64 t.fr, .int .i64 t.en, .string t.tx, .int .u64 t.s0, .int .u64 t.s1, .int .u64 t.s2, .int .u64 t.s3]) /\ Below wr.heap.size wr W') := fun _ => zay HW.out t ht
   have fl0 := zjn
   have hz := HE.out.z
   by_cases hkk : kdA E a = 7
   ·have hlt := zby (E := E) (i := a) (by omega)
    rw [hk.trans hkk] at HH
    have HP : Hid (∀ W, RS E z w0 W b tv a d v (L ++ M) -> Calls Tryz.prog 80 #[.pointer (some ⟨b, 0, none⟩), .int .i64 7] W fun e W' => e = .returned (.tuple #[]) /\ RS E z w0 W' b tv (a + 1) d v (L ++ M) /\ Fr W W' b v v) := fun W h => by
     have := zcH h hlt hz
     rw [hkk] at this
     exact this
    clear ht hk
    have HSa : Hid (∀ W, RS E z w0 W b tv (a + 1) d v (L ++ M) -> Calls Tryz.prog 109 #[.pointer (some ⟨b, 0, none⟩)] W fun e W' => PoR E z w0 b tv d W v (L ++ M) (gN E 2 (a + 1) d) e W') := fun W h => HS.out (a + 1) (by omega) (by omega) W v _ h (by omega)
    cases hr : gN E 2 (a + 1) d with
    | inr q =>
     have HV : Hid (R0 = .inr q) := by
      show R0 = _
      rw [HR.out, HGa.out, if_pos hkk, hr]
      rfl
     rw [hr] at HSa
     clear HR HGa hr hkk
     go_wp2_with fail
     refine (HH.out ()).mono ?_
     rintro e w1 ⟨rfl, hb⟩
     have HY := hO (HW.out.later hb)
     have HFY : Hid (Fr wr w1 b v v) := Fr.below b v hb
     clear hb HH
     go_wp2_with fail
     refine (HP.out _ HY.out).mono ?_
     rintro e w2 ⟨rfl, h2, hf2⟩
     have HX := hO h2
     have HFX : Hid (Fr wr w2 b v v) := HFY.out.trans hf2
     clear h2 hf2 HY HFY HP
     go_wp2_with fail
     refine (HSa.out _ HX.out).mono ?_
     rintro e w3 ⟨rfl, hb⟩
     exact zaf (P := Tryz.prog) (fn := Tryz.f81) rfl (by subst hv0; show PoR E z w0 b tv d W _ L R0 _ _; rw [HV.out]; exact ⟨rfl, hb⟩)
    | inl p =>
     obtain ⟨a2, ns2⟩ := p
     have hadv := zd5 (i := a + 1) (by omega) (by omega) hr
     have hln := (zdC HE.out.rl (i := a + 1) (by omega) (by omega) hr).1 (by omega)
     have hia := hadv.2.2 (by omega)
     have hal := hadv.2.1
     have HV : Hid (R0 = ahd (M ++ (ns2 ++ [nd0 8])) (gN E 1 a2 d)) := by
      show R0 = _
      rw [HR.out, HGa.out, if_pos hkk, hr]
      show ahd M (ahd (ns2 ++ [nd0 8]) (gN E 1 a2 d)) = _
      rw [zfI]
     rw [hr] at HSa
     have HPu : Hid (∀ W v, RS E z w0 W b tv a2 d v (L ++ M ++ ns2) -> Calls Tryz.prog 110 #[.pointer (some ⟨b, 0, none⟩), .slice (some ⟨W.heap.size, 0, none⟩) 1 1] (W.alloc (.cells #[.int .i64 8, .int .i64 0, .string ⟨#[]⟩, .int .u64 0, .int .u64 0, .int .u64 0, .int .u64 0] 51)) fun e W' => e = .returned (.tuple #[]) /\ ∃ v', RS E z w0 W' b tv a2 d v' (L ++ (M ++ (ns2 ++ [nd0 8]))) /\ Fr W W' b v v') := fun W v h => by
      have := zfX h (nd0 8) (by rw [List.length_append]; omega)
      rw [List.append_assoc, List.append_assoc] at this
      exact this
     have hll : (L ++ (M ++ (ns2 ++ [nd0 8]))).length <= 10027010 * a2 := by
      rw [List.length_append] at hlm
      rw [List.length_append, List.length_append, List.length_append, List.length_singleton]
      omega
     clear HR HGa hr hkk hadv hln
     go_wp2_with fail
     refine (HH.out ()).mono ?_
     rintro e w1 ⟨rfl, hb⟩
     have HY := hO (HW.out.later hb)
     have HFY : Hid (Fr wr w1 b v v) := Fr.below b v hb
     clear hb HH
     go_wp2_with fail
     refine (HP.out _ HY.out).mono ?_
     rintro e w2 ⟨rfl, h2, hf2⟩
     have HX := hO h2
     have HFX : Hid (Fr wr w2 b v v) := HFY.out.trans hf2
     clear h2 hf2 HY HFY HP
     go_wp2_with fail
     refine (HSa.out _ HX.out).mono ?_
     rintro e w3 ⟨rfl, v3, h3, hf3⟩
     have H3 := hO h3
     have HF3 : Hid (Fr W w3 b v0 v3) := HFW.out.trans (HFX.out.trans hf3)
     clear h3 hf3 HX HSa HFX
     go_wp2_with fail
     refine (HPu.out _ _ H3.out).mono ?_
     rintro e w4 ⟨rfl, v4, h4, hf4⟩
     have H4 := hO h4
     have HF4 : Hid (Fr W w4 b v0 v4) := HF3.out.trans hf4
     clear h4 hf4 H3 HF3 HPu
     go_wp2_with fail
     go_roundw
     case rel => exact ⟨a2, v4, _, by omega, hal, hll, H4, HF4, HV⟩
     case measure => rw [HW.out.nx, H4.out.nx]; omega
   ·have HV : Hid (R0 = .inl (a, M)) := by
     show R0 = _
     rw [HR.out, HGa.out, if_neg hkk]
     show Sum.inl (a, M ++ []) = _
     rw [List.append_nil]
    have t1 : (t.kd == 7) = false := by rw [hk]; exact bF hkk
    clear HR HGa hkk ht hk HS
    go_wp2_with fail
    refine (HH.out ()).mono ?_
    rintro e w2 ⟨rfl, hb⟩
    have HY := hO (HW.out.later hb)
    have HFY : Hid (Fr wr w2 b v v) := Fr.below b v hb
    clear hb HH HW
    go_wp2_with fail
    go_end0
    subst hv0; show PoR E z w0 b tv d W _ L R0 _ _
    rw [HV.out]
    exact ⟨rfl, _, HY.out, HFW.out.trans HFY.out⟩
theorem zkd {E : PE} (hE : OkE E) {z : Nat} {w0 : World} {b : Nat} {tv : Value} {i d : Nat} (HS0 : ∀ a, i <= a -> a <= E.l.length -> Ct 138 E z w0 b tv a d (gN E 4 a d)) : Ct 109 E z w0 b tv i d (gN E 2 i d) := by
 intro W v L h hL
 have hi := h.hi
 have hlen := hE.len
 have HS : Hid (∀ a, i <= a -> a <= E.l.length -> Ct 138 E z w0 b tv a d (gN E 4 a d)) := HS0
 have H := hO h
 have HE := hO hE
 have HC : Hid (∀ _ : Unit, Calls Tryz.prog 138 #[.pointer (some ⟨b, 0, none⟩)] W fun e W' => PoR E z w0 b tv d W v L (gN E 4 i d) e W') := fun _ => HS0 i (Nat.le_refl _) hi W v L h hL
 have HG := hO (g2 E i d hi)
 clear h hE HS0
 cases hr : gN E 4 i d with
 | inr q =>
  rw [hr] at HC HG
  have HV : Hid (gN E 2 i d = .inr q) := HG.out
  rw [HV.out]
  clear HG hr HS
  go_enter Tryz.func109, Tryz.ntmps109
  go_wp2_with fail
  refine (HC.out ()).mono ?_
  rintro e w1 ⟨rfl, hb⟩
  exact zaf rfl ⟨rfl, hb⟩
 | inl p =>
  obtain ⟨a, ns⟩ := p
  rw [hr] at HC HG
  have hadv := zd5 hi (by omega) hr
  have hlenN := (zdC HE.out.rl hi (by omega) hr).1 (by omega)
  have HV : Hid (gN E 2 i d = ahd ns (gN E 3 a d)) := HG.out
  generalize gN E 2 i d = R0 at *
  have hia := hadv.2.2 (by omega)
  have hal := hadv.2.1
  clear HG hr hadv
  go_enter Tryz.func109, Tryz.ntmps109
  go_wp2_with fail
  refine (HC.out ()).mono ?_
  rintro e w1 ⟨rfl, v1, h1, hf1⟩
  have H1 := hO h1
  have HF1 : Hid (Fr W w1 b v v1) := hf1
  obtain ⟨v0, hv0⟩ : ∃ u, u = v := ⟨_, rfl⟩
  rw [<- hv0] at HF1
  clear HC h1 hf1
  go_wp2_with fail
  go_loopw [4] (fun _ wr => ∃ (a : Nat) (v : Value) (M : List Nd), i < a /\ a <= E.l.length /\ (L ++ M).length <= 10027010 * a /\ Hid (RS E z w0 wr b tv a d v (L ++ M)) /\ Hid (Fr W wr b v0 v) /\ Hid (R0 = ahd M (gN E 3 a d))) (fun _ wr => E.l.length - nxt b wr)
  case atStart => exact ⟨a, v1, ns, hia, hal, by rw [List.length_append]; omega, H1, HF1, HV⟩
  case round =>
   obtain ⟨a, v, M, ha1, ha2, hlm, HW, HFW, HR⟩ := hrel
   clear H1 HF1 HV hia hal hlenN
   have HGa := hO (g3 E a d ha2)
   have hz := HE.out.z
   have HH : Hid (∀ _ : Unit, Calls Tryz.prog 139 #[.pointer (some ⟨b, 0, none⟩)] wr fun e W' => e = .returned (.bool (bgn E a)) /\ Below wr.heap.size wr W') := fun _ => zfN HW.out hz
   by_cases hkk : bgn E a = true
   ·have hlt := zd4 hkk
    rw [hkk] at HH
    have HSa : Hid (∀ W, RS E z w0 W b tv (a) d v (L ++ M) -> Calls Tryz.prog 138 #[.pointer (some ⟨b, 0, none⟩)] W fun e W' => PoR E z w0 b tv d W v (L ++ M) (gN E 4 (a) d) e W') := fun W h => HS.out (a) (by omega) (by omega) W v _ h (by omega)
    cases hr : gN E 4 (a) d with
    | inr q =>
     have HV : Hid (R0 = .inr q) := by
      show R0 = _
      rw [HR.out, HGa.out, if_pos hkk, hr]
      rfl
     rw [hr] at HSa
     clear HR HGa hr hkk
     go_wp2_with fail
     refine (HH.out ()).mono ?_
     rintro e w1 ⟨rfl, hb⟩
     have HX := hO (HW.out.later hb)
     have HFX : Hid (Fr wr w1 b v v) := Fr.below b v hb
     clear hb HH
     go_wp2_with fail
     refine (HSa.out _ HX.out).mono ?_
     rintro e w3 ⟨rfl, hb⟩
     exact zaf (P := Tryz.prog) (fn := Tryz.f109) rfl (by subst hv0; show PoR E z w0 b tv d W _ L R0 _ _; rw [HV.out]; exact ⟨rfl, hb⟩)
    | inl p =>
     obtain ⟨a2, ns2⟩ := p
     have hadv := zd5 (i := a) (by omega) (by omega) hr
     have hln := (zdC HE.out.rl (i := a) (by omega) (by omega) hr).1 (by omega)
     have hia := hadv.2.2 (by omega)
     have hal := hadv.2.1
     have HV : Hid (R0 = ahd (M ++ (ns2 ++ [nd0 7])) (gN E 3 a2 d)) := by
      show R0 = _
      rw [HR.out, HGa.out, if_pos hkk, hr]
      show ahd M (ahd (ns2 ++ [nd0 7]) (gN E 3 a2 d)) = _
      rw [zfI]
     rw [hr] at HSa
     have HPu : Hid (∀ W v, RS E z w0 W b tv a2 d v (L ++ M ++ ns2) -> Calls Tryz.prog 110 #[.pointer (some ⟨b, 0, none⟩), .slice (some ⟨W.heap.size, 0, none⟩) 1 1] (W.alloc (.cells #[.int .i64 7, .int .i64 0, .string ⟨#[]⟩, .int .u64 0, .int .u64 0, .int .u64 0, .int .u64 0] 51)) fun e W' => e = .returned (.tuple #[]) /\ ∃ v', RS E z w0 W' b tv a2 d v' (L ++ (M ++ (ns2 ++ [nd0 7]))) /\ Fr W W' b v v') := fun W v h => by
      have := zfX h (nd0 7) (by rw [List.length_append]; omega)
      rw [List.append_assoc, List.append_assoc] at this
      exact this
     have hll : (L ++ (M ++ (ns2 ++ [nd0 7]))).length <= 10027010 * a2 := by
      rw [List.length_append] at hlm
      rw [List.length_append, List.length_append, List.length_append, List.length_singleton]
      omega
     clear HR HGa hr hkk hadv hln
     go_wp2_with fail
     refine (HH.out ()).mono ?_
     rintro e w1 ⟨rfl, hb⟩
     have HX := hO (HW.out.later hb)
     have HFX : Hid (Fr wr w1 b v v) := Fr.below b v hb
     clear hb HH
     go_wp2_with fail
     refine (HSa.out _ HX.out).mono ?_
     rintro e w3 ⟨rfl, v3, h3, hf3⟩
     have H3 := hO h3
     have HF3 : Hid (Fr W w3 b v0 v3) := HFW.out.trans (HFX.out.trans hf3)
     clear h3 hf3 HX HSa HFX
     go_wp2_with fail
     refine (HPu.out _ _ H3.out).mono ?_
     rintro e w4 ⟨rfl, v4, h4, hf4⟩
     have H4 := hO h4
     have HF4 : Hid (Fr W w4 b v0 v4) := HF3.out.trans hf4
     clear h4 hf4 H3 HF3 HPu
     go_wp2_with fail
     go_roundw
     case rel => exact ⟨a2, v4, _, by omega, hal, hll, H4, HF4, HV⟩
     case measure => rw [HW.out.nx, H4.out.nx]; omega
   ·have HV : Hid (R0 = .inl (a, M)) := by
     show R0 = _
     rw [HR.out, HGa.out, if_neg hkk]
     show Sum.inl (a, M ++ []) = _
     rw [List.append_nil]
    rw [Bool.eq_false_iff.2 hkk] at HH
    clear HR HGa hkk HS
    go_wp2_with fail
    refine (HH.out ()).mono ?_
    rintro e w2 ⟨rfl, hb⟩
    have HY := hO (HW.out.later hb)
    have HFY : Hid (Fr wr w2 b v v) := Fr.below b v hb
    clear hb HH HW
    go_wp2_with fail
    go_end0
    subst hv0; show PoR E z w0 b tv d W _ L R0 _ _
    rw [HV.out]
    exact ⟨rfl, _, HY.out, HFW.out.trans HFY.out⟩
def rW (E : PE) (i d : Nat) (c : Int) : PR := if 240 <= d then .inr (i, 4) else bnd (gN E 0 (i + 1) (d + 1)) fun a ms => if kdA E a = c then .inl (a + 1, ms) else .inr (a, 60)
def rA (E : PE) (i d : Nat) (op : Int) : PR := if 240 <= d then .inr (i, 4) else bnd (gN E 4 (i + 1) (d + 1)) fun a ns => .inl (a, ns ++ [nd0 op])
theorem zgt {E : PE} (hE : OkE E) {z : Nat} {w0 : World} {b : Nat} {tv : Value} {i d : Nat} (op : Int) (hlt : i < E.l.length) (HP0 : Ct 138 E z w0 b tv (i + 1) (d + 1) (gN E 4 (i + 1) (d + 1))) (W : World) (v : Value) (L : List Nd) (h : RS E z w0 W b tv i d v L) (hL : L.length <= 10027010 * i) :
  Calls Tryz.prog 154 #[.pointer (some ⟨b, 0, none⟩), .int .i64 op] W fun e W' => PoR E z w0 b tv d W v L (rA E i d op) e W' := by
 have hlen := hE.len
 have hz := hE.z
 have H := hO h
 have HE := hO hE
 unfold rA
 by_cases hd : 240 <= d
 ·rw [if_pos hd]
  have HN : Hid (∀ _ : Unit, Calls Tryz.prog 169 #[.pointer (some ⟨b, 0, none⟩)] W fun e W' => e = pnc (plA E z i) 4 /\ Below w0.heap.size w0 W') := fun _ => zhR h hd
  clear h hd HP0 hE
  go_enter Tryz.func154, Tryz.ntmps154
  go_wp2_with fail
  refine (HN.out ()).mono ?_
  rintro e w1 ⟨rfl, hb⟩
  exact zaf rfl ⟨rfl, hb⟩
 ·rw [if_neg hd]
  have HN : Hid (∀ _ : Unit, Calls Tryz.prog 169 #[.pointer (some ⟨b, 0, none⟩)] W fun e W' => e = .returned (.tuple #[]) /\ RS E z w0 W' b tv (i + 1) (d + 1) v L /\ Fr W W' b v v) := fun _ => zhQ h hlt hd hz
  have HP : Hid (∀ W1, RS E z w0 W1 b tv (i + 1) (d + 1) v L -> Calls Tryz.prog 138 #[.pointer (some ⟨b, 0, none⟩)] W1 fun e W' => PoR E z w0 b tv (d + 1) W1 v L (gN E 4 (i + 1) (d + 1)) e W') := fun W1 h1 => HP0 W1 v L h1 (by omega)
  cases hr : gN E 4 (i + 1) (d + 1) with
  | inr q =>
   rw [hr] at HP
   show Calls Tryz.prog 154 _ _ fun e W' => PoR E z w0 b tv d W v L (.inr q) e W'
   clear h hd HP0 hE hr
   go_enter Tryz.func154, Tryz.ntmps154
   go_wp2_with fail
   refine (HN.out ()).mono ?_
   rintro e w1 ⟨rfl, h1, hf1⟩
   have H1 := hO h1
   clear h1 hf1 HN
   go_wp2_with fail
   refine (HP.out _ H1.out).mono ?_
   rintro e w2 ⟨rfl, hb⟩
   exact zaf rfl ⟨rfl, hb⟩
  | inl p =>
   obtain ⟨a, ns⟩ := p
   rw [hr] at HP
   show Calls Tryz.prog 154 _ _ fun e W' => PoR E z w0 b tv d W v L (.inl (a, ns ++ [nd0 op])) e W'
   have hadv := zd5 (i := i + 1) (by omega) (by omega) hr
   have hln := (zdC HE.out.rl (i := i + 1) (by omega) (by omega) hr).1 (by omega)
   have hal := hadv.2.1
   have HLv : Hid (∀ W v, RS E z w0 W b tv a (d + 1) v (L ++ ns) -> Calls Tryz.prog 170 #[.pointer (some ⟨b, 0, none⟩)] W fun e W' => e = .returned (.tuple #[]) /\ RS E z w0 W' b tv a d v (L ++ ns) /\ Fr W W' b v v) := fun W v h => zgo h
   have HPu : Hid (∀ W v, RS E z w0 W b tv a d v (L ++ ns) -> Calls Tryz.prog 110 #[.pointer (some ⟨b, 0, none⟩), .slice (some ⟨W.heap.size, 0, none⟩) 1 1] (W.alloc (.cells #[.int .i64 op, .int .i64 0, .string ⟨#[]⟩, .int .u64 0, .int .u64 0, .int .u64 0, .int .u64 0] 51)) fun e W' => e = .returned (.tuple #[]) /\ ∃ v', RS E z w0 W' b tv a d v' ((L ++ ns) ++ [⟨op, 0, ⟨#[]⟩, 0, 0, 0, 0⟩]) /\ Fr W W' b v v') := fun W v h => zfX h ⟨op, 0, ⟨#[]⟩, 0, 0, 0, 0⟩ (by rw [List.length_append]; omega)
   clear h hd HP0 hE hr hadv hln
   go_enter Tryz.func154, Tryz.ntmps154
   go_wp2_with fail
   refine (HN.out ()).mono ?_
   rintro e w1 ⟨rfl, h1, hf1⟩
   have H1 := hO h1
   have HF1 : Hid (Fr W w1 b v v) := hf1
   clear h1 hf1 HN
   go_wp2_with fail
   refine (HP.out _ H1.out).mono ?_
   rintro e w2 ⟨rfl, v2, h2, hf2⟩
   have H2 := hO h2
   have HF2 : Hid (Fr W w2 b v v2) := HF1.out.trans hf2
   clear h2 hf2 HP H1 HF1
   go_wp2_with fail
   refine (HLv.out _ _ H2.out).mono ?_
   rintro e w3 ⟨rfl, h3, hf3⟩
   have H3 := hO h3
   have HF3 : Hid (Fr W w3 b v v2) := HF2.out.trans hf3
   clear h3 hf3 HLv H2 HF2
   go_wp2_with fail
   refine (HPu.out _ _ H3.out).mono ?_
   rintro e w4 ⟨rfl, v4, h4, hf4⟩
   rw [List.append_assoc] at h4
   have H4 : Hid (∃ v', RS E z w0 w4 b tv a d v' (L ++ (ns ++ [nd0 op])) /\ Fr W w4 b v v') := ⟨v4, h4, HF3.out.trans hf4⟩
   clear h4 hf4 HPu H3 HF3
   go_wp2_with fail
   go_end0
   exact ⟨rfl, H4.out⟩
theorem zcu {E : PE} (hE : OkE E) {z : Nat} {w0 : World} {b : Nat} {tv : Value} {i d : Nat} (c : Int) (hc : ¬ c = 0) (hlt : i < E.l.length) (HX0 : Ct 81 E z w0 b tv (i + 1) (d + 1) (gN E 0 (i + 1) (d + 1))) (W : World) (v : Value) (L : List Nd) (h : RS E z w0 W b tv i d v L) (hL : L.length <= 10027010 * i) :
  Calls Tryz.prog 182 #[.pointer (some ⟨b, 0, none⟩), .int .i64 c] W fun e W' => PoR E z w0 b tv d W v L (rW E i d c) e W' := by
 have hlen := hE.len
 have hz := hE.z
 have H := hO h
 have HE := hO hE
 unfold rW
 by_cases hd : 240 <= d
 ·rw [if_pos hd]
  have HN : Hid (∀ _ : Unit, Calls Tryz.prog 169 #[.pointer (some ⟨b, 0, none⟩)] W fun e W' => e = pnc (plA E z i) 4 /\ Below w0.heap.size w0 W') := fun _ => zhR h hd
  clear h hd HX0 hE
  go_enter Tryz.func182, Tryz.ntmps182
  go_wp2_with fail
  refine (HN.out ()).mono ?_
  rintro e w1 ⟨rfl, hb⟩
  exact zaf rfl ⟨rfl, hb⟩
 ·rw [if_neg hd]
  have HN : Hid (∀ _ : Unit, Calls Tryz.prog 169 #[.pointer (some ⟨b, 0, none⟩)] W fun e W' => e = .returned (.tuple #[]) /\ RS E z w0 W' b tv (i + 1) (d + 1) v L /\ Fr W W' b v v) := fun _ => zhQ h hlt hd hz
  have HP : Hid (∀ W1, RS E z w0 W1 b tv (i + 1) (d + 1) v L -> Calls Tryz.prog 81 #[.pointer (some ⟨b, 0, none⟩)] W1 fun e W' => PoR E z w0 b tv (d + 1) W1 v L (gN E 0 (i + 1) (d + 1)) e W') := fun W1 h1 => HX0 W1 v L h1 (by omega)
  cases hr : gN E 0 (i + 1) (d + 1) with
  | inr q =>
   rw [hr] at HP
   show Calls Tryz.prog 182 _ _ fun e W' => PoR E z w0 b tv d W v L (.inr q) e W'
   clear h hd HX0 hE hr hc
   go_enter Tryz.func182, Tryz.ntmps182
   go_wp2_with fail
   refine (HN.out ()).mono ?_
   rintro e w1 ⟨rfl, h1, hf1⟩
   have H1 := hO h1
   clear h1 hf1 HN
   go_wp2_with fail
   refine (HP.out _ H1.out).mono ?_
   rintro e w2 ⟨rfl, hb⟩
   exact zaf rfl ⟨rfl, hb⟩
  | inl p =>
   obtain ⟨a, ns⟩ := p
   rw [hr] at HP
   have hadv := zd5 (i := i + 1) (by omega) (by omega) hr
   have hal := hadv.2.1
   by_cases hk : kdA E a = c
   ·have hal2 := zby (E := E) (i := a) (by omega)
    have HPs : Hid (∀ W v, RS E z w0 W b tv a (d + 1) v (L ++ ns) -> Calls Tryz.prog 80 #[.pointer (some ⟨b, 0, none⟩), .int .i64 c] W fun e W' => e = .returned (.tuple #[]) /\ RS E z w0 W' b tv (a + 1) (d + 1) v (L ++ ns) /\ Fr W W' b v v) := fun W v h => by
     have := zcH h hal2 hz
     rw [hk] at this
     exact this
    have HLv : Hid (∀ W v, RS E z w0 W b tv (a + 1) (d + 1) v (L ++ ns) -> Calls Tryz.prog 170 #[.pointer (some ⟨b, 0, none⟩)] W fun e W' => e = .returned (.tuple #[]) /\ RS E z w0 W' b tv (a + 1) d v (L ++ ns) /\ Fr W W' b v v) := fun W v h => zgo h
    have HV : Hid ((if kdA E a = c then (.inl (a + 1, ns) : PR) else .inr (a, 60)) = .inl (a + 1, ns)) := if_pos hk
    show Calls Tryz.prog 182 _ _ fun e W' => PoR E z w0 b tv d W v L (if kdA E a = c then .inl (a + 1, ns) else .inr (a, 60)) e W'
    rw [HV.out]
    clear h hd HX0 hE hr hadv hk HV hc
    go_enter Tryz.func182, Tryz.ntmps182
    go_wp2_with fail
    refine (HN.out ()).mono ?_
    rintro e w1 ⟨rfl, h1, hf1⟩
    have H1 := hO h1
    have HF1 : Hid (Fr W w1 b v v) := hf1
    clear h1 hf1 HN
    go_wp2_with fail
    refine (HP.out _ H1.out).mono ?_
    rintro e w2 ⟨rfl, v2, h2, hf2⟩
    have H2 := hO h2
    have HF2 : Hid (Fr W w2 b v v2) := HF1.out.trans hf2
    clear h2 hf2 HP H1 HF1
    go_wp2_with fail
    refine (HPs.out _ _ H2.out).mono ?_
    rintro e w3 ⟨rfl, h3, hf3⟩
    have H3 := hO h3
    have HF3 : Hid (Fr W w3 b v v2) := HF2.out.trans hf3
    clear h3 hf3 HPs H2 HF2
    go_wp2_with fail
    refine (HLv.out _ _ H3.out).mono ?_
    rintro e w4 ⟨rfl, h4, hf4⟩
    have H4 : Hid (∃ v', RS E z w0 w4 b tv (a + 1) d v' (L ++ ns) /\ Fr W w4 b v v') := ⟨v2, h4, HF3.out.trans hf4⟩
    clear h4 hf4 HLv H3 HF3
    go_wp2_with fail
    go_end0
    exact ⟨rfl, H4.out⟩
   ·have HPs : Hid (∀ W v, RS E z w0 W b tv a (d + 1) v (L ++ ns) -> Calls Tryz.prog 80 #[.pointer (some ⟨b, 0, none⟩), .int .i64 c] W fun e W' => e = pnc (plA E z a) 60 /\ Below w0.heap.size w0 W') := fun W v h => zjV h c hk
    have HV : Hid ((if kdA E a = c then (.inl (a + 1, ns) : PR) else .inr (a, 60)) = .inr (a, 60)) := if_neg hk
    show Calls Tryz.prog 182 _ _ fun e W' => PoR E z w0 b tv d W v L (if kdA E a = c then .inl (a + 1, ns) else .inr (a, 60)) e W'
    rw [HV.out]
    clear h hd HX0 hE hr hadv hk HV hc
    go_enter Tryz.func182, Tryz.ntmps182
    go_wp2_with fail
    refine (HN.out ()).mono ?_
    rintro e w1 ⟨rfl, h1, hf1⟩
    have H1 := hO h1
    clear h1 hf1 HN
    go_wp2_with fail
    refine (HP.out _ H1.out).mono ?_
    rintro e w2 ⟨rfl, v2, h2, hf2⟩
    have H2 := hO h2
    clear h2 hf2 HP H1
    go_wp2_with fail
    refine (HPs.out _ _ H2.out).mono ?_
    rintro e w3 ⟨rfl, hb⟩
    exact zaf rfl ⟨rfl, hb⟩
def gS (E : PE) (i d : Nat) : PR := if bgP E i = true then bnd (gN E 5 i d) fun a ns => ahd ns (gN E 6 a d) else .inr (i, 60)
theorem zke {E : PE} (hE : OkE E) {z : Nat} {w0 : World} {b : Nat} {tv : Value} {i d : Nat} (HP0 : i < E.l.length -> Ct 138 E z w0 b tv (i + 1) (d + 1) (gN E 4 (i + 1) (d + 1))) (HS0 : Ct 155 E z w0 b tv i d (gS E i d)) : Ct 138 E z w0 b tv i d (gN E 4 i d) := by
 intro W v L h hL
 obtain ⟨t, ht, hk, _, _⟩ := zav E z h.hi
 have HH : Hid (∀ _ : Unit, Calls Tryz.prog 46 #[.pointer (some ⟨b, 0, none⟩)] W fun e W' => e = .returned (.agg #[.int .i64 t.kd, .int .i64 t.nn, .int .i64 t.fr, .int .i64 t.en, .string t.tx, .int .u64 t.s0, .int .u64 t.s1, .int .u64 t.s2, .int .u64 t.s3]) /\ Below W.heap.size W W') := fun _ => zay h t ht
 have H := hO h
 have fl0 := zjn
 have HG := hO (g4 E i d h.hi)
 by_cases c8 : kdA E i = 8
 ·have hlt := zby (E := E) (i := i) (by omega)
  have HA : Hid (∀ W1, RS E z w0 W1 b tv i d v L -> Calls Tryz.prog 154 #[.pointer (some ⟨b, 0, none⟩), .int .i64 12] W1 fun e W' => PoR E z w0 b tv d W1 v L (rA E i d 12) e W') := fun W1 h1 => zgt hE 12 hlt (HP0 hlt) W1 v L h1 hL
  have HV : Hid (gN E 4 i d = rA E i d 12) := by
   show gN E 4 i d = _
   rw [HG.out, if_pos (by unfold bgn; rw [c8]; rfl), if_pos (.inl c8), show (if kdA E i = 8 then (12 : Int) else 13) = 12 from if_pos c8]
   rfl
  rw [HV.out]
  generalize rA E i d 12 = r at *
  rw [hk.trans c8] at HH
  clear h ht hk c8 HG HV HP0 HS0 hE
  go_enter Tryz.func138, Tryz.ntmps138
  go_wp2_with fail
  refine (HH.out ()).mono ?_
  rintro e w1 ⟨rfl, hb⟩
  have H1 := hO (H.out.later hb)
  have HF1 : Hid (Fr W w1 b v v) := Fr.below b v hb
  clear hb HH H
  go_wp2_with fail
  refine (HA.out _ H1.out).mono ?_
  rintro e w2 hp
  cases r with
  | inr q =>
   obtain ⟨rfl, hb⟩ := hp
   exact zaf rfl ⟨rfl, hb⟩
  | inl p =>
   obtain ⟨rfl, v2, h2, hf2⟩ := hp
   have H2 : Hid (∃ v', RS E z w0 w2 b tv p.1 d v' (L ++ p.2) /\ Fr W w2 b v v') := ⟨v2, h2, HF1.out.trans hf2⟩
   clear h2 hf2
   go_wp2_with fail
   go_end0
   exact ⟨rfl, H2.out⟩
 by_cases c9 : kdA E i = 9
 ·have hlt := zby (E := E) (i := i) (by omega)
  have HA : Hid (∀ W1, RS E z w0 W1 b tv i d v L -> Calls Tryz.prog 154 #[.pointer (some ⟨b, 0, none⟩), .int .i64 13] W1 fun e W' => PoR E z w0 b tv d W1 v L (rA E i d 13) e W') := fun W1 h1 => zgt hE 13 hlt (HP0 hlt) W1 v L h1 hL
  have HV : Hid (gN E 4 i d = rA E i d 13) := by
   show gN E 4 i d = _
   rw [HG.out, if_pos (by unfold bgn; rw [c9]; rfl), if_pos (.inr c9), show (if kdA E i = 8 then (12 : Int) else 13) = 13 from if_neg c8]
   rfl
  rw [HV.out]
  generalize rA E i d 13 = r at *
  rw [hk.trans c9] at HH
  clear h ht hk c9 c8 HG HV HP0 HS0 hE
  go_enter Tryz.func138, Tryz.ntmps138
  go_wp2_with fail
  refine (HH.out ()).mono ?_
  rintro e w1 ⟨rfl, hb⟩
  have H1 := hO (H.out.later hb)
  have HF1 : Hid (Fr W w1 b v v) := Fr.below b v hb
  clear hb HH H
  go_wp2_with fail
  refine (HA.out _ H1.out).mono ?_
  rintro e w2 hp
  cases r with
  | inr q =>
   obtain ⟨rfl, hb⟩ := hp
   exact zaf rfl ⟨rfl, hb⟩
  | inl p =>
   obtain ⟨rfl, v2, h2, hf2⟩ := hp
   have H2 : Hid (∃ v', RS E z w0 w2 b tv p.1 d v' (L ++ p.2) /\ Fr W w2 b v v') := ⟨v2, h2, HF1.out.trans hf2⟩
   clear h2 hf2
   go_wp2_with fail
   go_end0
   exact ⟨rfl, H2.out⟩
 have HS : Hid (∀ W1, RS E z w0 W1 b tv i d v L -> Calls Tryz.prog 155 #[.pointer (some ⟨b, 0, none⟩)] W1 fun e W' => PoR E z w0 b tv d W1 v L (gS E i d) e W') := fun W1 h1 => HS0 W1 v L h1 hL
 have HV : Hid (gN E 4 i d = gS E i d) := by
  show gN E 4 i d = _
  have hb : bgn E i = bgP E i := by rw [zjX, bF c8, bF c9]; rfl
  rw [HG.out, hb, if_neg (by omega : ¬ (kdA E i = 8 ∨ kdA E i = 9))]
  rfl
 rw [HV.out]
 have v8 : (t.kd == 8) = false := by rw [hk]; exact bF c8
 have v9 : (t.kd == 9) = false := by rw [hk]; exact bF c9
 generalize gS E i d = r at *
 clear h ht hk c8 c9 HG HV HP0 HS0 hE
 go_enter Tryz.func138, Tryz.ntmps138
 go_wp2_with fail
 refine (HH.out ()).mono ?_
 rintro e w1 ⟨rfl, hb⟩
 have H1 := hO (H.out.later hb)
 have HF1 : Hid (Fr W w1 b v v) := Fr.below b v hb
 clear hb HH H
 go_wp2_with fail
 refine (HS.out _ H1.out).mono ?_
 rintro e w2 hp
 cases r with
 | inr q =>
  obtain ⟨rfl, hb⟩ := hp
  exact zaf rfl ⟨rfl, hb⟩
 | inl p =>
  obtain ⟨rfl, v2, h2, hf2⟩ := hp
  have H2 : Hid (∃ v', RS E z w0 w2 b tv p.1 d v' (L ++ p.2) /\ Fr W w2 b v v') := ⟨v2, h2, HF1.out.trans hf2⟩
  clear h2 hf2
  go_wp2_with fail
  go_end0
  exact ⟨rfl, H2.out⟩
theorem zeI {W W' : World} {k b : Nat} {t : Tk} {v v' : Value} (h : TX W k t) (hf : Fr W W' b v v') (hk : k ≠ b) (hv : v.ownBlock ≠ some k) : TX W' k t := h.same (hf.block k h.lt hk hv)
theorem RS.new {E : PE} {z : Nat} {w0 W : World} {b : Nat} {tv : Value} {i d : Nat} {v : Value} {L : List Nd} (h : RS E z w0 W b tv i d v L) : W.heap.size ≠ b /\ v.ownBlock ≠ some W.heap.size :=
 ⟨by have := h.x.lt; omega, fun e => by have := (h.o.lt _ e).2; omega⟩
theorem zgu {E : PE} {z : Nat} {w0 W : World} {b : Nat} {tv : Value} {i d : Nat} {v : Value} {L : List Nd} (h : RS E z w0 W b tv i d v L) (n : Nd) (q : Nat) (hq : W.heap.size = q) (hl : L.length + 1 <= 2000000000000) :
  Calls Tryz.prog 110 #[.pointer (some ⟨b, 0, none⟩), .slice (some ⟨q, 0, none⟩) 1 1] (W.alloc (.cells #[.int .i64 n.op, .int .i64 n.nn, .string n.tx, .int .u64 n.s0, .int .u64 n.s1, .int .u64 n.s2, .int .u64 n.s3] 51)) fun e W' => e = .returned (.tuple #[]) /\ ∃ v', RS E z w0 W' b tv i d v' (L ++ [n]) /\ Fr W W' b v v' := by
 subst hq
 exact zfX h n hl
def imR (E : PE) (j : Nat) : PR := if kdA E j = 2 then (if E.tm (tkA E j).tx then .inl (j + 1, [⟨22, 0, (tkA E j).tx, 0, 0, 0, 0⟩]) else .inr (j, 61)) else if kdA E j = 4 then (if 50 < (tkA E j).nn then .inr (j, 1) else .inl (j + 1, [⟨23, (tkA E j).nn, ⟨#[]⟩, 0, 0, 0, 0⟩])) else .inr (j, 60)
theorem g6_27 (E : PE) (a d : Nat) (ha : a <= E.l.length) (hk : kdA E a = 27) : gN E 6 a d = bnd (imR E (a + 1)) fun j ns => ahd ns (gN E 6 j d) := by
 rw [g6 E a d ha]
 unfold zgh znB imR
 rw [hk, if_neg (by decide), if_neg (by decide), if_neg (by decide), if_neg (by decide), if_neg (by decide), if_neg (by decide), if_pos rfl]
 by_cases k2 : kdA E (a + 1) = 2
 ·rw [if_pos k2, if_pos k2]
  cases E.tm (tkA E (a + 1)).tx <;> rfl
 ·rw [if_neg k2, if_neg k2]
  by_cases k4 : kdA E (a + 1) = 4
  ·rw [if_pos k4, if_pos k4]
   by_cases h50 : 50 < (tkA E (a + 1)).nn
   ·rw [if_pos h50, if_pos h50]; rfl
   ·rw [if_neg h50, if_neg h50]; rfl
  ·rw [if_neg k4, if_neg k4]; rfl
theorem g6_sf (E : PE) (a d : Nat) (ha : a <= E.l.length) (hs : sfB (kdA E a) = true) (h0 : kdA E a = 10 ∨ kdA E a = 11 ∨ kdA E a = 12 -> (tkA E a).nn = 0) : gN E 6 a d = ahd [⟨sfO (kdA E a), (tkA E a).nn, ⟨#[]⟩, 0, 0, 0, 0⟩] (gN E 6 (a + 1) d) := by
 rw [g6 E a d ha]
 have key : zgh E a = .inl (⟨sfO (kdA E a), (tkA E a).nn, ⟨#[]⟩, 0, 0, 0, 0⟩, 1) := by
  unfold zgh znB
  unfold sfB at hs
  simp only [Bool.or_eq_true, beq_iff_eq] at hs
  rcases hs with ((((h | h) | h) | h) | h) | h
  ·rw [h, h0 (.inl h)]; rfl
  ·rw [h, h0 (.inr (.inl h))]; rfl
  ·rw [h, h0 (.inr (.inr h))]; rfl
  ·rw [h]; rfl
  ·rw [h]; rfl
  ·rw [h]; rfl
 rw [key]
theorem g6_no (E : PE) (a d : Nat) (ha : a <= E.l.length) (hs : sfB (kdA E a) = false) (hk : ¬ kdA E a = 27) : gN E 6 a d = .inl (a, []) := by
 rw [g6 E a d ha]
 have key : zgh E a = .inr none := by
  unfold zgh znB
  unfold sfB at hs
  simp only [Bool.or_eq_false_iff, beq_eq_false_iff_ne] at hs
  obtain ⟨⟨⟨⟨⟨h1, h2⟩, h3⟩, h4⟩, h5⟩, h6⟩ := hs
  rw [if_neg h1, if_neg h2, if_neg h3, if_neg h4, if_neg h5, if_neg h6, if_neg hk]
 rw [key]
theorem zkf {E : PE} (hE : OkE E) {z : Nat} {w0 : World} {b : Nat} {tv : Value} {i d : Nat} : Ct 172 E z w0 b tv i d (imR E i) := by
 intro W v L h hL
 have hlen := hE.len
 have hz := hE.z
 have hi := h.hi
 obtain ⟨t, ht, hk, hpl, hta⟩ := zav E z h.hi
 clear hpl
 have HH : Hid (∀ _ : Unit, Calls Tryz.prog 46 #[.pointer (some ⟨b, 0, none⟩)] W fun e W' => e = .returned (.agg #[.int .i64 t.kd, .int .i64 t.nn, .int .i64 t.fr, .int .i64 t.en, .string t.tx, .int .u64 t.s0, .int .u64 t.s1, .int .u64 t.s2, .int .u64 t.s3]) /\ Below W.heap.size W W') := fun _ => zay h t ht
 have H := hO h
 unfold imR
 by_cases k2 : kdA E i = 2
 ·have hlt := zby (E := E) (i := i) (by omega)
  obtain rfl : t = tkA E i := hta hlt
  have hmem : tkA E i ∈ E.l := by unfold tkA; rw [List.getElem?_eq_getElem hlt]; exact List.getElem_mem hlt
  have htx := hE.tx _ hmem
  have HTm : Hid (∀ W, Calls Tryz.prog 185 #[.string (tkA E i).tx] W fun e W' => e = .returned (.bool (T.tmB (tkA E i).tx)) /\ Below W.heap.size W W') := fun W => zj9 _ (by omega) W
  have hnot : ∀ (x : Bool) (w : World), (Op.unary .not (.bool x)).run Tryz.prog w = .ok (.bool (!x)) w := fun _ _ => rfl
  rw [if_pos k2, hE.tm]
  rw [hk.trans k2] at HH
  have hk2 := hk.trans k2
  generalize tkA E i = t at *
  cases htm : T.tmB t.tx with
  | true =>
   rw [htm] at HTm
   have HPs : Hid (∀ W v, RS E z w0 W b tv i d v (L ++ [⟨22, 0, t.tx, 0, 0, 0, 0⟩]) -> Calls Tryz.prog 80 #[.pointer (some ⟨b, 0, none⟩), .int .i64 2] W fun e W' => e = .returned (.tuple #[]) /\ RS E z w0 W' b tv (i + 1) d v (L ++ [⟨22, 0, t.tx, 0, 0, 0, 0⟩]) /\ Fr W W' b v v) := fun W v h => by
    have := zcH h hlt hz
    rw [k2] at this
    exact this
   have HPu : Hid (∀ W v q, W.heap.size = q -> RS E z w0 W b tv i d v L -> Calls Tryz.prog 110 #[.pointer (some ⟨b, 0, none⟩), .slice (some ⟨q, 0, none⟩) 1 1] (W.alloc (.cells #[.int .i64 22, .int .i64 0, .string t.tx, .int .u64 0, .int .u64 0, .int .u64 0, .int .u64 0] 51)) fun e W' => e = .returned (.tuple #[]) /\ ∃ v', RS E z w0 W' b tv i d v' (L ++ [⟨22, 0, t.tx, 0, 0, 0, 0⟩]) /\ Fr W W' b v v') := fun W v q hq h => zgu h ⟨22, 0, t.tx, 0, 0, 0, 0⟩ q hq (by omega)
   show Calls Tryz.prog 172 _ _ fun e W' => PoR E z w0 b tv d W v L (.inl (i + 1, [⟨22, 0, t.tx, 0, 0, 0, 0⟩])) e W'
   clear h ht hk k2 hta hmem htx htm hk2
   go_enter Tryz.func172, Tryz.ntmps172
   go_wp2_with fail
   refine (HH.out ()).mono ?_
   rintro e w1 ⟨rfl, hb⟩
   have H1 : Hid (RS E z w0 (w1.alloc (.cells #[.int .i64 2, .int .i64 t.nn, .int .i64 t.fr, .int .i64 t.en, .string t.tx, .int .u64 t.s0, .int .u64 t.s1, .int .u64 t.s2, .int .u64 t.s3] 79)) b tv i d v L) := (H.out.later hb).later (zaa _ _)
   have HF1 : Hid (Fr W (w1.alloc (.cells #[.int .i64 2, .int .i64 t.nn, .int .i64 t.fr, .int .i64 t.en, .string t.tx, .int .u64 t.s0, .int .u64 t.s1, .int .u64 t.s2, .int .u64 t.s3] 79)) b v v) := (Fr.below b v hb).trans (Fr.below b v (zaa _ _))
   have HT1 : Hid (TX (w1.alloc (.cells #[.int .i64 2, .int .i64 t.nn, .int .i64 t.fr, .int .i64 t.en, .string t.tx, .int .u64 t.s0, .int .u64 t.s1, .int .u64 t.s2, .int .u64 t.s3] 79)) w1.heap.size ⟨2, t.nn, t.fr, t.en, t.tx, t.s0, t.s1, t.s2, t.s3⟩) := ⟨heap_alloc_new w1 _⟩
   have HN1 : Hid (w1.heap.size ≠ b /\ v.ownBlock ≠ some w1.heap.size) := (H.out.later hb).new
   clear hb HH H
   go_wp2_with fail
   refine (HTm.out _).mono ?_
   rintro e w2 ⟨rfl, hb⟩
   have H2 := hO (H1.out.later hb)
   have HF2 : Hid (Fr W w2 b v v) := HF1.out.trans (Fr.below b v hb)
   have HT2 := hO (HT1.out.below hb)
   clear hb H1 HF1 HT1 HTm
   obtain ⟨c0, c1, c2, c3, c4, c5, c6, c7, c8⟩ := HT2.out.cells
   go_wp2_with fail
   refine (HPu.out _ _ _ rfl H2.out).mono ?_
   rintro e w3 ⟨rfl, v3, h3, hf3⟩
   have H3 := hO h3
   have HF3 : Hid (Fr W w3 b v v3) := HF2.out.trans hf3
   have HT3 := hO (zeI HT2.out hf3 HN1.out.1 HN1.out.2)
   clear h3 hf3 H2 HF2 HT2 HPu c0 c1 c2 c3 c4 c5 c6 c7 c8
   obtain ⟨c0, c1, c2, c3, c4, c5, c6, c7, c8⟩ := HT3.out.cells
   go_wp2_with fail
   refine (HPs.out _ _ H3.out).mono ?_
   rintro e w4 ⟨rfl, h4, hf4⟩
   have H4 : Hid (∃ v', RS E z w0 w4 b tv (i + 1) d v' (L ++ [⟨22, 0, t.tx, 0, 0, 0, 0⟩]) /\ Fr W w4 b v v') := ⟨v3, h4, HF3.out.trans hf4⟩
   clear h4 hf4 H3 HF3 HT3 HPs c0 c1 c2 c3 c4 c5 c6 c7 c8
   go_wp2_with fail
   go_end0
   exact ⟨rfl, H4.out⟩
  | false =>
   rw [htm] at HTm
   have HRf : Hid (∀ W, RS E z w0 W b tv i d v L -> Calls Tryz.prog 50 #[.pointer (some ⟨b, 0, none⟩), .int .i64 61] W fun e W' => e = pnc (plA E z i) 61 /\ Below W.heap.size W W') := fun W h => zbG h 61
   show Calls Tryz.prog 172 _ _ fun e W' => PoR E z w0 b tv d W v L (.inr (i, 61)) e W'
   clear h ht hk k2 hta hmem htx htm hk2
   go_enter Tryz.func172, Tryz.ntmps172
   go_wp2_with fail
   refine (HH.out ()).mono ?_
   rintro e w1 ⟨rfl, hb⟩
   have H1 : Hid (RS E z w0 (w1.alloc (.cells #[.int .i64 2, .int .i64 t.nn, .int .i64 t.fr, .int .i64 t.en, .string t.tx, .int .u64 t.s0, .int .u64 t.s1, .int .u64 t.s2, .int .u64 t.s3] 79)) b tv i d v L) := (H.out.later hb).later (zaa _ _)
   have HF1 : Hid (Fr W (w1.alloc (.cells #[.int .i64 2, .int .i64 t.nn, .int .i64 t.fr, .int .i64 t.en, .string t.tx, .int .u64 t.s0, .int .u64 t.s1, .int .u64 t.s2, .int .u64 t.s3] 79)) b v v) := (Fr.below b v hb).trans (Fr.below b v (zaa _ _))
   have HT1 : Hid (TX (w1.alloc (.cells #[.int .i64 2, .int .i64 t.nn, .int .i64 t.fr, .int .i64 t.en, .string t.tx, .int .u64 t.s0, .int .u64 t.s1, .int .u64 t.s2, .int .u64 t.s3] 79)) w1.heap.size ⟨2, t.nn, t.fr, t.en, t.tx, t.s0, t.s1, t.s2, t.s3⟩) := ⟨heap_alloc_new w1 _⟩
   have HN1 : Hid (w1.heap.size ≠ b /\ v.ownBlock ≠ some w1.heap.size) := (H.out.later hb).new
   clear hb HH H
   go_wp2_with fail
   refine (HTm.out _).mono ?_
   rintro e w2 ⟨rfl, hb⟩
   have H2 := hO (H1.out.later hb)
   clear hb H1 HF1 HT1 HTm
   go_wp2_with fail
   refine (HRf.out _ H2.out).mono ?_
   rintro e w3 ⟨rfl, hb⟩
   exact zaf rfl ⟨rfl, H2.out.bl.trans (hb.mono H2.out.bl.size)⟩
 rw [if_neg k2]
 by_cases k4 : kdA E i = 4
 ·have hlt := zby (E := E) (i := i) (by omega)
  obtain rfl : t = tkA E i := hta hlt
  rw [if_pos k4]
  rw [hk.trans k4] at HH
  have hk2 := hk.trans k4
  generalize tkA E i = t at *
  by_cases h50 : 50 < t.nn
  ·have HRf : Hid (∀ W, RS E z w0 W b tv i d v L -> Calls Tryz.prog 50 #[.pointer (some ⟨b, 0, none⟩), .int .i64 1] W fun e W' => e = pnc (plA E z i) 1 /\ Below W.heap.size W W') := fun W h => zbG h 1
   rw [if_pos h50]
   clear h ht hk k2 hta k4 hk2
   go_enter Tryz.func172, Tryz.ntmps172
   go_wp2_with fail
   refine (HH.out ()).mono ?_
   rintro e w1 ⟨rfl, hb⟩
   have H1 : Hid (RS E z w0 (w1.alloc (.cells #[.int .i64 4, .int .i64 t.nn, .int .i64 t.fr, .int .i64 t.en, .string t.tx, .int .u64 t.s0, .int .u64 t.s1, .int .u64 t.s2, .int .u64 t.s3] 79)) b tv i d v L) := (H.out.later hb).later (zaa _ _)
   have HF1 : Hid (Fr W (w1.alloc (.cells #[.int .i64 4, .int .i64 t.nn, .int .i64 t.fr, .int .i64 t.en, .string t.tx, .int .u64 t.s0, .int .u64 t.s1, .int .u64 t.s2, .int .u64 t.s3] 79)) b v v) := (Fr.below b v hb).trans (Fr.below b v (zaa _ _))
   have HT1 : Hid (TX (w1.alloc (.cells #[.int .i64 4, .int .i64 t.nn, .int .i64 t.fr, .int .i64 t.en, .string t.tx, .int .u64 t.s0, .int .u64 t.s1, .int .u64 t.s2, .int .u64 t.s3] 79)) w1.heap.size ⟨4, t.nn, t.fr, t.en, t.tx, t.s0, t.s1, t.s2, t.s3⟩) := ⟨heap_alloc_new w1 _⟩
   have HN1 : Hid (w1.heap.size ≠ b /\ v.ownBlock ≠ some w1.heap.size) := (H.out.later hb).new
   clear hb HH H
   go_wp2_with fail
   refine (HRf.out _ H1.out).mono ?_
   rintro e w3 ⟨rfl, hb⟩
   exact zaf rfl ⟨rfl, H1.out.bl.trans (hb.mono H1.out.bl.size)⟩
  ·have HPs : Hid (∀ W v, RS E z w0 W b tv i d v (L ++ [⟨23, t.nn, ⟨#[]⟩, 0, 0, 0, 0⟩]) -> Calls Tryz.prog 80 #[.pointer (some ⟨b, 0, none⟩), .int .i64 4] W fun e W' => e = .returned (.tuple #[]) /\ RS E z w0 W' b tv (i + 1) d v (L ++ [⟨23, t.nn, ⟨#[]⟩, 0, 0, 0, 0⟩]) /\ Fr W W' b v v) := fun W v h => by
    have := zcH h hlt hz
    rw [k4] at this
    exact this
   have HPu : Hid (∀ W v q, W.heap.size = q -> RS E z w0 W b tv i d v L -> Calls Tryz.prog 110 #[.pointer (some ⟨b, 0, none⟩), .slice (some ⟨q, 0, none⟩) 1 1] (W.alloc (.cells #[.int .i64 23, .int .i64 t.nn, .string ⟨#[]⟩, .int .u64 0, .int .u64 0, .int .u64 0, .int .u64 0] 51)) fun e W' => e = .returned (.tuple #[]) /\ ∃ v', RS E z w0 W' b tv i d v' (L ++ [⟨23, t.nn, ⟨#[]⟩, 0, 0, 0, 0⟩]) /\ Fr W W' b v v') := fun W v q hq h => zgu h ⟨23, t.nn, ⟨#[]⟩, 0, 0, 0, 0⟩ q hq (by omega)
   rw [if_neg h50]
   clear h ht hk k2 hta k4 hk2
   go_enter Tryz.func172, Tryz.ntmps172
   go_wp2_with fail
   refine (HH.out ()).mono ?_
   rintro e w1 ⟨rfl, hb⟩
   have H1 : Hid (RS E z w0 (w1.alloc (.cells #[.int .i64 4, .int .i64 t.nn, .int .i64 t.fr, .int .i64 t.en, .string t.tx, .int .u64 t.s0, .int .u64 t.s1, .int .u64 t.s2, .int .u64 t.s3] 79)) b tv i d v L) := (H.out.later hb).later (zaa _ _)
   have HF1 : Hid (Fr W (w1.alloc (.cells #[.int .i64 4, .int .i64 t.nn, .int .i64 t.fr, .int .i64 t.en, .string t.tx, .int .u64 t.s0, .int .u64 t.s1, .int .u64 t.s2, .int .u64 t.s3] 79)) b v v) := (Fr.below b v hb).trans (Fr.below b v (zaa _ _))
   have HT1 : Hid (TX (w1.alloc (.cells #[.int .i64 4, .int .i64 t.nn, .int .i64 t.fr, .int .i64 t.en, .string t.tx, .int .u64 t.s0, .int .u64 t.s1, .int .u64 t.s2, .int .u64 t.s3] 79)) w1.heap.size ⟨4, t.nn, t.fr, t.en, t.tx, t.s0, t.s1, t.s2, t.s3⟩) := ⟨heap_alloc_new w1 _⟩
   have HN1 : Hid (w1.heap.size ≠ b /\ v.ownBlock ≠ some w1.heap.size) := (H.out.later hb).new
   clear hb HH H
   go_wp2_with fail
   refine (HPu.out _ _ _ (World.size_alloc _ _) H1.out).mono ?_
   rintro e w3 ⟨rfl, v3, h3, hf3⟩
   have H3 := hO h3
   have HF3 : Hid (Fr W w3 b v v3) := HF1.out.trans hf3
   have HT3 := hO (zeI HT1.out hf3 HN1.out.1 HN1.out.2)
   clear h3 hf3 H1 HF1 HT1 HPu
   obtain ⟨c0, c1, c2, c3, c4, c5, c6, c7, c8⟩ := HT3.out.cells
   go_wp2_with fail
   refine (HPs.out _ _ H3.out).mono ?_
   rintro e w4 ⟨rfl, h4, hf4⟩
   have H4 : Hid (∃ v', RS E z w0 w4 b tv (i + 1) d v' (L ++ [⟨23, t.nn, ⟨#[]⟩, 0, 0, 0, 0⟩]) /\ Fr W w4 b v v') := ⟨v3, h4, HF3.out.trans hf4⟩
   clear h4 hf4 H3 HF3 HT3 HPs c0 c1 c2 c3 c4 c5 c6 c7 c8
   go_wp2_with fail
   go_end0
   exact ⟨rfl, H4.out⟩
 ·have HRf : Hid (∀ W, RS E z w0 W b tv i d v L -> Calls Tryz.prog 50 #[.pointer (some ⟨b, 0, none⟩), .int .i64 60] W fun e W' => e = pnc (plA E z i) 60 /\ Below W.heap.size W W') := fun W h => zbG h 60
  rw [if_neg k4]
  have v2 : (t.kd == 2) = false := by rw [hk]; exact bF k2
  have v4 : (t.kd == 4) = false := by rw [hk]; exact bF k4
  clear h ht hk k2 hta k4
  go_enter Tryz.func172, Tryz.ntmps172
  go_wp2_with fail
  refine (HH.out ()).mono ?_
  rintro e w1 ⟨rfl, hb⟩
  have H1 : Hid (RS E z w0 (w1.alloc (.cells #[.int .i64 t.kd, .int .i64 t.nn, .int .i64 t.fr, .int .i64 t.en, .string t.tx, .int .u64 t.s0, .int .u64 t.s1, .int .u64 t.s2, .int .u64 t.s3] 79)) b tv i d v L) := (H.out.later hb).later (zaa _ _)
  have HF1 : Hid (Fr W (w1.alloc (.cells #[.int .i64 t.kd, .int .i64 t.nn, .int .i64 t.fr, .int .i64 t.en, .string t.tx, .int .u64 t.s0, .int .u64 t.s1, .int .u64 t.s2, .int .u64 t.s3] 79)) b v v) := (Fr.below b v hb).trans (Fr.below b v (zaa _ _))
  have HT1 : Hid (TX (w1.alloc (.cells #[.int .i64 t.kd, .int .i64 t.nn, .int .i64 t.fr, .int .i64 t.en, .string t.tx, .int .u64 t.s0, .int .u64 t.s1, .int .u64 t.s2, .int .u64 t.s3] 79)) w1.heap.size t) := ⟨heap_alloc_new w1 _⟩
  have HN1 : Hid (w1.heap.size ≠ b /\ v.ownBlock ≠ some w1.heap.size) := (H.out.later hb).new
  clear hb HH H
  go_wp2_with fail
  refine (HRf.out _ H1.out).mono ?_
  rintro e w3 ⟨rfl, hb⟩
  exact zaf rfl ⟨rfl, H1.out.bl.trans (hb.mono H1.out.bl.size)⟩
def gP (E : PE) (i d : Nat) : PR := if bgP E i = true then gN E 5 i d else .inr (i, 60)
theorem gS_eq (E : PE) (i d : Nat) : gS E i d = bnd (gP E i d) fun a ns => ahd ns (gN E 6 a d) := by
 unfold gS gP
 split <;> rfl
theorem znG {E : PE} {i : Nat} (h : bgP E i = true) : i < E.l.length := zd4 (by rw [zjX, h]; simp)
theorem zkg {E : PE} (hE : OkE E) {z : Nat} {w0 : World} {b : Nat} {tv : Value} {i d : Nat} (HP0 : Ct 171 E z w0 b tv i d (gP E i d)) : Ct 155 E z w0 b tv i d (gS E i d) := by
 intro W v L h hL
 have hi := h.hi
 have hlen := hE.len
 have hz := hE.z
 have HE := hO hE
 have HC : Hid (∀ _ : Unit, Calls Tryz.prog 171 #[.pointer (some ⟨b, 0, none⟩)] W fun e W' => PoR E z w0 b tv d W v L (gP E i d) e W') := fun _ => HP0 W v L h hL
 have HG := hO (gS_eq E i d)
 have HB := (show Hid (∀ a ns, gP E i d = .inl (a, ns) -> i < a /\ a <= E.l.length /\ ns.length <= 10027010 * (a - i)) from fun a ns hr => by
  unfold gP at hr
  split at hr
  ·next hb =>
   have hlt := znG hb
   have h1 := zd5 hi (fun _ => hlt) hr
   have h2 := zdC hE.rl hi (fun _ => hlt) hr
   exact ⟨h1.2.2 (by omega), h1.2.1, h2.2⟩
  ·cases hr)
 clear h hE HP0
 cases hr : gP E i d with
 | inr q =>
  rw [hr] at HC HG
  have HV : Hid (gS E i d = .inr q) := HG.out
  rw [HV.out]
  clear HG hr HB
  go_enter Tryz.func155, Tryz.ntmps155
  go_wp2_with fail
  refine (HC.out ()).mono ?_
  rintro e w1 ⟨rfl, hb⟩
  exact zaf rfl ⟨rfl, hb⟩
 | inl p =>
  obtain ⟨a, ns⟩ := p
  obtain ⟨hia, hal, hlenN⟩ := HB.out a ns hr
  rw [hr] at HC HG
  have HV : Hid (gS E i d = ahd ns (gN E 6 a d)) := HG.out
  generalize gS E i d = R0 at *
  clear HG hr HB
  go_enter Tryz.func155, Tryz.ntmps155
  go_wp2_with fail
  refine (HC.out ()).mono ?_
  rintro e w1 ⟨rfl, v1, h1, hf1⟩
  have H1 := hO h1
  have HF1 : Hid (Fr W w1 b v v1) := hf1
  obtain ⟨v0, hv0⟩ : ∃ u, u = v := ⟨_, rfl⟩
  rw [<- hv0] at HF1
  clear HC h1 hf1
  go_wp2_with fail
  go_loopw [7] (fun _ wr => ∃ (a : Nat) (v : Value) (M : List Nd), i < a /\ a <= E.l.length /\ (L ++ M).length <= 10027010 * a /\ Hid (RS E z w0 wr b tv a d v (L ++ M)) /\ Hid (Fr W wr b v0 v) /\ Hid (R0 = ahd M (gN E 6 a d))) (fun _ wr => E.l.length - nxt b wr)
  case atStart => exact ⟨a, v1, ns, hia, hal, by rw [List.length_append]; omega, H1, HF1, HV⟩
  case round =>
   obtain ⟨a, v, M, ha1, ha2, hlm, HW, HFW, HR⟩ := hrel
   clear H1 HF1 HV hia hal hlenN
   obtain ⟨t, ht, hk, hpl, hta⟩ := zav E z ha2
   clear hpl
   have HH : Hid (∀ _ : Unit, Calls Tryz.prog 46 #[.pointer (some ⟨b, 0, none⟩)] wr fun e W' => e = .returned (.agg #[.int .i64 t.kd, .int .i64 t.nn, .int .i64 t.fr, .int .i64 t.en, .string t.tx, .int .u64 t.s0, .int .u64 t.s1, .int .u64 t.s2, .int .u64 t.s3]) /\ Below wr.heap.size wr W') := fun _ => zay HW.out t ht
   by_cases k27 : kdA E a = 27
   ·have hlt := zby (E := E) (i := a) (by omega)
    have HV : Hid (R0 = ahd M (bnd (imR E (a + 1)) fun j ns => ahd ns (gN E 6 j d))) := by
     show R0 = _
     rw [HR.out, g6_27 E a d ha2 k27]
    have HI : Hid (∀ W v, RS E z w0 W b tv (a + 1) d v (L ++ M) -> Calls Tryz.prog 172 #[.pointer (some ⟨b, 0, none⟩)] W fun e W' => PoR E z w0 b tv d W v (L ++ M) (imR E (a + 1)) e W') := fun W v h => zkf HE.out W v _ h (by omega)
    have HPs : Hid (∀ W v, RS E z w0 W b tv a d v (L ++ M) -> Calls Tryz.prog 80 #[.pointer (some ⟨b, 0, none⟩), .int .i64 27] W fun e W' => e = .returned (.tuple #[]) /\ RS E z w0 W' b tv (a + 1) d v (L ++ M) /\ Fr W W' b v v) := fun W v h => by
     have := zcH h hlt hz
     rw [k27] at this
     exact this
    have HJ := (show Hid (∀ j ns, imR E (a + 1) = .inl (j, ns) -> j = a + 2 /\ j <= E.l.length /\ ns.length = 1) from fun j ns hj => by
     unfold imR at hj
     split at hj
     ·next k2 =>
      have := zby (E := E) (i := a + 1) (by omega)
      split at hj
      ·cases hj; exact ⟨rfl, by omega, rfl⟩
      ·cases hj
     ·split at hj
      ·next k4 =>
       have := zby (E := E) (i := a + 1) (by omega)
       split at hj
       ·cases hj
       ·cases hj; exact ⟨rfl, by omega, rfl⟩
      ·cases hj)
    rw [hk.trans k27] at HH
    clear HR k27 ht hk hta
    go_wp2_with fail
    refine (HH.out ()).mono ?_
    rintro e w1 ⟨rfl, hb⟩
    have H1 : Hid (RS E z w0 (w1.alloc (.cells #[.int .i64 27, .int .i64 t.nn, .int .i64 t.fr, .int .i64 t.en, .string t.tx, .int .u64 t.s0, .int .u64 t.s1, .int .u64 t.s2, .int .u64 t.s3] 79)) b tv a d v (L ++ M)) := (HW.out.later hb).later (zaa _ _)
    have HF1 : Hid (Fr W (w1.alloc (.cells #[.int .i64 27, .int .i64 t.nn, .int .i64 t.fr, .int .i64 t.en, .string t.tx, .int .u64 t.s0, .int .u64 t.s1, .int .u64 t.s2, .int .u64 t.s3] 79)) b v0 v) := HFW.out.trans ((Fr.below b v hb).trans (Fr.below b v (zaa _ _)))
    have HNx : Hid (nxt b wr = a) := HW.out.nx
    clear hb HH HW HFW
    go_wp2_with fail
    refine (HPs.out _ _ H1.out).mono ?_
    rintro e w2 ⟨rfl, h2, hf2⟩
    have H2 := hO h2
    have HF2 : Hid (Fr W w2 b v0 v) := HF1.out.trans hf2
    clear h2 hf2 H1 HF1 HPs
    go_wp2_with fail
    refine (HI.out _ _ H2.out).mono ?_
    rintro e w3 hp
    cases hr : imR E (a + 1) with
    | inr q =>
     rw [hr] at hp HV
     obtain ⟨rfl, hb⟩ := hp
     exact zaf (P := Tryz.prog) (fn := Tryz.f155) rfl (by subst hv0; show PoR E z w0 b tv d W _ L R0 _ _; rw [HV.out]; exact ⟨rfl, hb⟩)
    | inl p =>
     obtain ⟨j, ns2⟩ := p
     obtain ⟨hj1, hj2, hj3⟩ := HJ.out j ns2 hr
     rw [hr] at hp HV
     obtain ⟨rfl, v3, h3, hf3⟩ := hp
     have H3 : Hid (RS E z w0 w3 b tv j d v3 (L ++ (M ++ ns2))) := by rw [<- List.append_assoc]; exact h3
     have HF3 : Hid (Fr W w3 b v0 v3) := HF2.out.trans hf3
     have HV3 : Hid (R0 = ahd (M ++ ns2) (gN E 6 j d)) := by
      show R0 = _
      rw [HV.out, <- zfI]
      rfl
     clear h3 hf3 H2 HF2 HI HV HJ hr
     go_wp2_with fail
     go_roundw
     case rel => exact ⟨j, v3, _, by omega, hj2, by rw [<- List.append_assoc, List.length_append]; omega, H3, HF3, HV3⟩
     case measure => rw [HNx.out, H3.out.nx]; omega
   ·have HSf : Hid (∀ W, Calls Tryz.prog 173 #[.int .i64 t.kd] W fun e W' => e = .returned (.tuple #[.int .i64 (sfO t.kd), .bool (sfB t.kd)]) /\ W' = W) := fun W => zgp t.kd W
    have hnot : ∀ (x : Bool) (w : World), (Op.unary .not (.bool x)).run Tryz.prog w = .ok (.bool (!x)) w := fun _ _ => rfl
    have v27 : (t.kd == 27) = false := by rw [hk]; exact bF k27
    cases hs : sfB t.kd with
    | false =>
     have HV : Hid (R0 = .inl (a, M)) := by
      show R0 = _
      rw [HR.out, g6_no E a d ha2 (by rw [<- hk]; exact hs) k27]
      show Sum.inl (a, M ++ []) = _
      rw [List.append_nil]
     rw [hs] at HSf
     clear HR k27 ht hk hta hs
     go_wp2_with fail
     refine (HH.out ()).mono ?_
     rintro e w1 ⟨rfl, hb⟩
     have H1 : Hid (RS E z w0 (w1.alloc (.cells #[.int .i64 t.kd, .int .i64 t.nn, .int .i64 t.fr, .int .i64 t.en, .string t.tx, .int .u64 t.s0, .int .u64 t.s1, .int .u64 t.s2, .int .u64 t.s3] 79)) b tv a d v (L ++ M)) := (HW.out.later hb).later (zaa _ _)
     have HF1 : Hid (Fr W (w1.alloc (.cells #[.int .i64 t.kd, .int .i64 t.nn, .int .i64 t.fr, .int .i64 t.en, .string t.tx, .int .u64 t.s0, .int .u64 t.s1, .int .u64 t.s2, .int .u64 t.s3] 79)) b v0 v) := HFW.out.trans ((Fr.below b v hb).trans (Fr.below b v (zaa _ _)))
     clear hb HH HW HFW
     go_wp2_with fail
     refine (HSf.out _).mono ?_
     rintro e w2 ⟨rfl, rfl⟩
     go_wp2_with fail
     first | go_end0 | refine bodyPost_ret (results_none rfl _ _ _) rfl ?_
     subst hv0
     show PoR E z w0 b tv d W _ L R0 _ _
     rw [HV.out]
     exact ⟨rfl, _, H1.out, HF1.out⟩
    | true =>
     have hlt : a < E.l.length := zby (E := E) (i := a) (fun q => by rw [hk, q] at hs; exact absurd hs (by decide))
     obtain rfl : t = tkA E a := hta hlt
     have hmem : tkA E a ∈ E.l := by unfold tkA; rw [List.getElem?_eq_getElem hlt]; exact List.getElem_mem hlt
     have HV : Hid (R0 = ahd (M ++ [⟨sfO (tkA E a).kd, (tkA E a).nn, ⟨#[]⟩, 0, 0, 0, 0⟩]) (gN E 6 (a + 1) d)) := by
      show R0 = _
      rw [HR.out, g6_sf E a d ha2 (by rw [<- hk]; exact hs) (by rw [<- hk]; exact HE.out.n0 _ hmem), zfI, hk]
     rw [hs] at HSf
     have HPs : Hid (∀ W v, RS E z w0 W b tv a d v (L ++ M) -> Calls Tryz.prog 80 #[.pointer (some ⟨b, 0, none⟩), .int .i64 (tkA E a).kd] W fun e W' => e = .returned (.tuple #[]) /\ RS E z w0 W' b tv (a + 1) d v (L ++ M) /\ Fr W W' b v v) := fun W v h => by
      rw [hk]
      exact zcH h hlt hz
     clear HR k27 ht hta hs hmem hk
     generalize tkA E a = t at *
     have HPu : Hid (∀ W v q, W.heap.size = q -> RS E z w0 W b tv (a + 1) d v (L ++ M) -> Calls Tryz.prog 110 #[.pointer (some ⟨b, 0, none⟩), .slice (some ⟨q, 0, none⟩) 1 1] (W.alloc (.cells #[.int .i64 (sfO t.kd), .int .i64 t.nn, .string ⟨#[]⟩, .int .u64 0, .int .u64 0, .int .u64 0, .int .u64 0] 51)) fun e W' => e = .returned (.tuple #[]) /\ ∃ v', RS E z w0 W' b tv (a + 1) d v' ((L ++ M) ++ [⟨(sfO t.kd), t.nn, ⟨#[]⟩, 0, 0, 0, 0⟩]) /\ Fr W W' b v v') := fun W v q hq h => zgu h ⟨sfO t.kd, t.nn, ⟨#[]⟩, 0, 0, 0, 0⟩ q hq (by omega)
     generalize sfO t.kd = op at *
     go_wp2_with fail
     refine (HH.out ()).mono ?_
     rintro e w1 ⟨rfl, hb⟩
     have H1 : Hid (RS E z w0 (w1.alloc (.cells #[.int .i64 t.kd, .int .i64 t.nn, .int .i64 t.fr, .int .i64 t.en, .string t.tx, .int .u64 t.s0, .int .u64 t.s1, .int .u64 t.s2, .int .u64 t.s3] 79)) b tv a d v (L ++ M)) := (HW.out.later hb).later (zaa _ _)
     have HF1 : Hid (Fr W (w1.alloc (.cells #[.int .i64 t.kd, .int .i64 t.nn, .int .i64 t.fr, .int .i64 t.en, .string t.tx, .int .u64 t.s0, .int .u64 t.s1, .int .u64 t.s2, .int .u64 t.s3] 79)) b v0 v) := HFW.out.trans ((Fr.below b v hb).trans (Fr.below b v (zaa _ _)))
     have HT1 : Hid (TX (w1.alloc (.cells #[.int .i64 t.kd, .int .i64 t.nn, .int .i64 t.fr, .int .i64 t.en, .string t.tx, .int .u64 t.s0, .int .u64 t.s1, .int .u64 t.s2, .int .u64 t.s3] 79)) w1.heap.size t) := ⟨heap_alloc_new w1 _⟩
     have HN1 : Hid (w1.heap.size ≠ b /\ v.ownBlock ≠ some w1.heap.size) := (HW.out.later hb).new
     have HNx : Hid (nxt b wr = a) := HW.out.nx
     clear hb HH HW HFW
     go_wp2_with fail
     refine (HSf.out _).mono ?_
     rintro e w2 ⟨rfl, rfl⟩
     clear HSf
     go_wp2_with fail
     refine (HPs.out _ _ H1.out).mono ?_
     rintro e w3 ⟨rfl, h3, hf3⟩
     have H3 := hO h3
     have HF3 : Hid (Fr W w3 b v0 v) := HF1.out.trans hf3
     have HT3 := hO (zeI HT1.out hf3 HN1.out.1 HN1.out.2)
     clear h3 hf3 H1 HF1 HT1 HPs
     obtain ⟨c0, c1, c2, c3, c4, c5, c6, c7, c8⟩ := HT3.out.cells
     go_wp2_with fail
     refine (HPu.out _ _ _ rfl H3.out).mono ?_
     rintro e w4 ⟨rfl, v4, h4, hf4⟩
     have H4 : Hid (RS E z w0 w4 b tv (a + 1) d v4 (L ++ (M ++ [⟨op, t.nn, ⟨#[]⟩, 0, 0, 0, 0⟩]))) := by rw [<- List.append_assoc]; exact h4
     have HF4 : Hid (Fr W w4 b v0 v4) := HF3.out.trans hf4
     clear h4 hf4 H3 HF3 HT3 HPu c0 c1 c2 c3 c4 c5 c6 c7 c8
     go_wp2_with fail
     go_roundw
     case rel => exact ⟨a + 1, v4, _, by omega, by omega, by rw [<- List.append_assoc, List.length_append, List.length_singleton]; omega, H4, HF4, HV⟩
     case measure => rw [HNx.out, H4.out.nx]; omega
end Go.Proofs.YtkihfkcmcdiajaaGreatDoor.N
