/- NotationBlanks holds of every text: tokens told as a text again, with one blank between, are read as the same; the laid tables runes.blocks and token.signs are tied to the program's text. -/
import Derived.Test.YtkihfkcmcdiajaaGreatDoorPb16
set_option maxRecDepth 100000
set_option maxHeartbeats 8000000
namespace Go.Proofs.YtkihfkcmcdiajaaGreatDoor.N
open Go.RowKit
theorem zlO {E : PE} {z : Nat} : ∀ (rs : List Rl) (all : Nat), all <= 2048 -> zfb E z all rs = none -> (∀ r ∈ rs, (T.ck r.2.2).2 = 0) /\ all + (rs.map fun r => r.2.2.length).sum <= 2048 := by
 intro rs
 induction rs with
 | nil => intro all ha _; exact ⟨fun r hr => (by cases hr), by simpa using ha⟩
 | cons r rs ih =>
  intro all ha h
  rw [zfb] at h
  by_cases h1 : (T.ck r.2.2).2 ≠ 0
  ·rw [if_pos h1] at h; cases h
  ·rw [if_neg h1] at h
   by_cases h2 : 2048 < all + r.2.2.length
   ·rw [if_pos h2] at h; cases h
   ·rw [if_neg h2] at h
    obtain ⟨h3, h4⟩ := ih _ (by omega) h
    refine ⟨fun x hx => ?_, by rw [List.map_cons, List.sum_cons]; omega⟩
    rcases List.mem_cons.1 hx with rfl | q
    ·exact Decidable.not_not.1 h1
    ·exact h3 x q
theorem znr {E : PE} {z : Nat} {rs : List Rl} (h : szR E z rs = none) : rs.length <= 200 /\ (∀ r ∈ rs, (T.ck r.2.2).2 = 0) /\ (rs.map fun r => r.2.2.length).sum <= 2048 := by
 unfold szR at h
 cases hr : rs[200]? with
 | some r => rw [hr] at h; cases h
 | none =>
  rw [hr] at h
  obtain ⟨h1, h2⟩ := zlO rs 0 (by omega) h
  exact ⟨List.getElem?_eq_none_iff.1 hr, h1, by omega⟩
theorem fin_ok {E : PE} {z : Nat} {r : Sum (List Rl) (Nat × Int)} {gs : List (ByteArray × List Nd)} (h : fin E z r = .inl gs) : ∃ rs, r = .inl rs /\ szR E z rs = none /\ gs = rs.map fun r => r.2 := by
 unfold fin at h
 cases r with
 | inr q => cases h
 | inl rs =>
  dsimp only at h
  cases hs : szR E z rs with
  | some x => rw [hs] at h; cases h
  | none => rw [hs] at h; cases h; exact ⟨rs, rfl, hs, rfl⟩
theorem alN_ok {E : PE} {rs : List Rl} (h : alN E = .inl rs) : ∃ ns, rs = [(0, ⟨#[]⟩, ns)] /\ who E ns := by
 unfold alN at h
 cases hx : exN E 0 with
 | inr p => rw [hx] at h; cases h
 | inl p =>
  obtain ⟨a, ns⟩ := p
  rw [hx] at h
  dsimp only at h
  have := (zey (Nat.zero_le _) hx).2
  split at h
  ·cases h
  ·cases h
   refine ⟨ns, rfl, ?_⟩
   unfold who
   rw [hx, show a = E.l.length from by omega]
theorem zqb {E : PE} {ns : List Nd} (h : who E ns) : alN E = .inl [(0, ⟨#[]⟩, ns)] := by
 unfold alN
 unfold who at h
 rw [h]
 show (if E.l.length < E.l.length then _ else _) = _
 rw [if_neg (Nat.lt_irrefl _)]
theorem zqc {E : PE} {z : Nat} {ns : List Nd} (h1 : (T.ck ns).2 = 0) (h2 : ns.length <= 2048) : szR E z [(0, ⟨#[]⟩, ns)] = none := by
 unfold szR
 show zfb E z 0 [(0, ⟨#[]⟩, ns)] = none
 rw [zfb, if_neg (by rw [h1]; simp), if_neg (by show ¬ 2048 < 0 + ns.length; omega), zfb]
theorem zqd {s : ByteArray} {l : List Tk} {ns : List Nd} (hl : zbn (zaE s) s = .inl l) (h : who (mkE l) ns) (h1 : (T.ck ns).2 = 0) (h2 : ns.length <= 2048) : paR s = .inl [(⟨#[]⟩, ns)] := by
 unfold paR
 rw [hl]
 show fin (mkE l) s.size (alN (mkE l)) = _
 rw [zqb h]
 unfold fin
 simp only [zqc h1 h2]
 rfl
theorem ck_len {L : List Nd} (h : (T.ck L).2 = 0) : L.length <= 2048 := by
 unfold T.ck at h
 by_cases q : 2048 < L.length
 ·rw [if_pos q] at h; exact absurd h (by decide)
 ·omega
def dot : ByteArray := ⟨#[46]⟩
theorem zqe : zbn (zaE dot) dot = .inl [⟨18, 0, 0, 1, ⟨#[]⟩, 0, 0, 0, 0⟩] := rfl
theorem ex_dot : exN (mkE [⟨18, 0, 0, 1, ⟨#[]⟩, 0, 0, 0, 0⟩]) 0 = .inl (1, [nd0 3]) := rfl
theorem ck_any : (T.ck [nd0 3]).2 = 0 := by
 have e : (⟨#[]⟩ : ByteArray) = ByteArray.empty := rfl
 simp [nd0, T.ck, T.zeh, T.er, T.alE, T.fdF, T.txF, T.nuF, T.seF, T.ar, T.run, T.pt, T.mk, T.arN, T.ze1, e]
theorem pa_dot : paR dot = .inl [(⟨#[]⟩, [nd0 3])] := zqd zqe ex_dot ck_any (by simp)
theorem fx_eql (a b c d : Int) (W : World) : (binOp .eql 27 (.agg #[.int .i64 a, .int .i64 b]) (.agg #[.int .i64 c, .int .i64 d])).run Tryz.prog W = .ok (.bool (a == c && b == d)) W := by
 have h := eq26 a b c d W
 have e : Op.maxDepth = 10000 := rfl
 simp [binOp, Op.equal, e, h]
theorem zdM (w : World) (hg : GW w) : Calls Tryz.prog 11 #[] w fun e w' => e = .returned (.bool true) /\ Below w.heap.size w w' := by
 have HP : Hid (∀ _ : Unit, Calls Tryz.prog 13 #[.string ⟨#[46]⟩] w fun e w' => (∃ v, e = .returned (.tuple #[v, .agg #[.int .i64 0, .int .i64 0]]) /\ w'.ownsRow w.heap.size 51 7 v 1 (T.ndc [nd0 3])) /\ Below w.heap.size w w') := fun _ => by
  refine (znq dot w hg).mono ?_
  rintro e w' ⟨h1, h2⟩
  rw [pa_dot] at h1
  obtain ⟨v, ns, h3, h4, h5⟩ := h1
  have e1 : [nd0 3] = ns := by
   injection h3 with h6 _
   injection h6 with _ h8
  subst e1
  exact ⟨⟨v, h4, h5⟩, h2⟩
 have hfe := fx_eql
 clear hg
 go_enter Tryz.func11, Tryz.ntmps11
 go_wp2_with fail
 refine (HP.out ()).mono ?_
 rintro e w1 ⟨⟨v, rfl, ho⟩, hb⟩
 obtain ⟨g, c, rfl, _, hlt⟩ := ho.form (by decide)
 have hc : w1.cell? ⟨g, 0, none⟩ = some (.int .i64 3) := by
  have := ho.cells (g := g) rfl 0 (.int .i64 3) rfl
  rwa [Addr.add_lit, Nat.zero_add] at this
 have hc2 : ∀ o, (w1.alloc o).cell? ⟨g, 0, none⟩ = some (.int .i64 3) := fun o => ((zaa w1 o).cell (p := ⟨g, 0, none⟩) hlt).trans hc
 have HB : Hid (Below w.heap.size w w1) := hb
 have hn : ¬ g = w1.heap.size := by omega
 clear hb ho HP
 go_wp2_with fail
 go_ret
 exact ⟨rfl, HB.out.alloc HB.out.size _⟩
theorem zn5 {E : PE} (P : Nat -> Prop) (hP : ∀ i, ruB E i = true -> P i) : ∀ (f i : Nat) (out rs : List Rl), (∀ r ∈ out, P r.1 /\ r.2.1 = (tkA E r.1).tx) -> rlG (exN E) E f i out = .inl rs -> out.length <= rs.length /\ ∀ r ∈ rs, P r.1 /\ r.2.1 = (tkA E r.1).tx := by
 intro f
 induction f with
 | zero => intro i out rs h0 h; rw [rlG] at h; cases h; exact ⟨Nat.le_refl _, h0⟩
 | succ f ih =>
  intro i out rs h0 h
  rw [rlG] at h
  by_cases hi : i < E.l.length
  ·rw [if_pos hi] at h
   by_cases hr : ruB E i = true
   ·rw [if_pos hr] at h
    cases he : exN E (i + 2) with
    | inr p => rw [he] at h; cases h
    | inl p =>
     rw [he] at h
     obtain ⟨h1, h2⟩ := ih _ _ _ (fun r hr2 => by
      rcases List.mem_append.1 hr2 with q | q
      ·exact h0 r q
      ·rw [List.mem_singleton.1 q]; exact ⟨hP i hr, rfl⟩) h
     rw [List.length_append] at h1
     exact ⟨by omega, h2⟩
   ·rw [if_neg hr] at h; cases h
  ·rw [if_neg hi] at h; cases h; exact ⟨Nat.le_refl _, h0⟩
theorem zqf {E : PE} (hr : ruB E 0 = true) {rs : List Rl} (h : rlG (exN E) E (E.l.length + 1) 0 [] = .inl rs) : 1 <= rs.length := by
 have h0 := zgV hr
 rw [rlG, if_pos (by omega), if_pos hr] at h
 cases he : exN E (0 + 2) with
 | inr p => rw [he] at h; cases h
 | inl p =>
  rw [he] at h
  have := (zn5 (fun _ => True) (fun _ _ => trivial) _ _ _ _ (fun r hr2 => by rw [List.mem_singleton.1 hr2]; exact ⟨trivial, rfl⟩) h).1
  exact this
theorem nm_pos {s : ByteArray} {l : List Tk} (h : zbn (zaE s) s = .inl l) {i : Nat} (hk : ruB (mkE l) i = true) : 0 < (tkA (mkE l) i).tx.size := by
 have h2 := zgV hk
 have hi : i < l.length := by
  have : i + 2 <= l.length := h2
  omega
 have hk1 : kdA (mkE l) i = 1 := by
  unfold ruB at hk
  simp only [Bool.and_eq_true, beq_iff_eq] at hk
  exact hk.1
 unfold kdA mkE at hk1
 rw [List.getElem?_eq_getElem hi] at hk1
 have hk1 : (l[i]).kd = 1 := hk1
 have e : tkA (mkE l) i = l[i] := by unfold tkA mkE; rw [List.getElem?_eq_getElem hi]; rfl
 rw [e]
 have h1 := (zdr h l[i] (List.getElem_mem hi)).r
 unfold riF at h1
 simp only [Bool.and_eq_true] at h1
 have h3 := h1.1.1.2
 rw [hk1] at h3
 unfold txF at h3
 rw [if_pos rfl] at h3
 unfold zeb at h3
 simp only [Bool.and_eq_true, decide_eq_true_eq] at h3
 exact h3.1.1.1
theorem zn6 {s : ByteArray} {gs : List (ByteArray × List Nd)} (h : psR s = .inl gs) : 1 <= gs.length /\ gs.length <= 200 /\ (∀ g ∈ gs, (T.ck g.2).2 = 0 /\ g.2.length <= 2048 /\ ∀ n ∈ g.2, n.tx.size <= 65536) /\ (gs.map fun g => g.2.length).sum <= 2048 /\ (1 < gs.length -> ∀ g ∈ gs, 0 < g.1.size) := by
 unfold psR at h
 cases hl : zbn (zaE s) s with
 | inr q => rw [hl] at h; cases h
 | inl l =>
  rw [hl] at h
  obtain ⟨rs, h1, h2, h3⟩ := fin_ok h
  obtain ⟨z1, z2, z3⟩ := znr h2
  have htx := zn3 (zit hl) h1
  have key : 1 <= rs.length /\ (1 < rs.length -> ∀ r ∈ rs, 0 < r.2.1.size) := by
   by_cases hr : ruB (mkE l) 0 = true
   ·have h4 : rlG (exN (mkE l)) (mkE l) ((mkE l).l.length + 1) 0 [] = .inl rs := by rw [<- h1]; unfold rdN; rw [if_pos hr]
    refine ⟨zqf hr h4, fun _ r hr2 => ?_⟩
    obtain ⟨q1, q2⟩ := (zn5 (fun i => 0 < (tkA (mkE l) i).tx.size) (fun i hi => nm_pos hl hi) _ _ _ _ (fun r hr => by cases hr) h4).2 r hr2
    rw [q2]
    exact q1
   ·rw [znO hr] at h1
    obtain ⟨ns, rfl, _⟩ := alN_ok h1
    exact ⟨Nat.le_refl _, fun q => absurd q (by simp)⟩
  subst h3
  refine ⟨by rw [List.length_map]; exact key.1, by rw [List.length_map]; exact z1, fun g hg => ?_, ?_, fun q g hg => ?_⟩
  ·obtain ⟨r, hr, rfl⟩ := List.mem_map.1 hg
   exact ⟨z2 r hr, ck_len (z2 r hr), htx r hr⟩
  ·rw [List.map_map]
   exact z3
  ·obtain ⟨r, hr, rfl⟩ := List.mem_map.1 hg
   exact key.2 (by rwa [List.length_map] at q) r hr
theorem zqg (L : List (Rl × Value)) : ∀ (k j : Nat) (x : Rl × Value) (u : Value), L[k]? = some x -> (grV x)[j]? = some u -> (grc L)[k * 2 + j]? = some u := by
 induction L with
 | nil => intro k j t u h; simp at h
 | cons a L ih =>
  intro k j t u h hj
  have e : grc (a :: L) = grV a ++ grc L := by unfold grc; rw [List.flatMap_cons]
  have hl : (grV a).length = 2 := rfl
  rw [e]
  cases k with
  | zero =>
   have h : a = t := by simpa using h
   subst h
   rw [Nat.zero_mul, Nat.zero_add, List.getElem?_append_left (by have := (List.getElem?_eq_some_iff.1 hj).1; omega)]
   exact hj
  | succ k =>
   rw [List.getElem?_append_right (by omega), hl, show (k + 1) * 2 + j - 2 = k * 2 + j from by omega]
   exact ih k j t u (by simpa using h) hj
theorem own_gr {W : World} {B : Nat} {u : Value} {ov : List (Rl × Value)} (h : W.ownsRow B 41 2 u ov.length (grc ov)) : ∃ A c, u = .slice A ov.length c /\ ∀ (k : Nat) x, ov[k]? = some x -> ∃ g, A = some ⟨g, 0, none⟩ /\ g < W.heap.size /\ W.cell? ⟨g, k * 2, none⟩ = some (.string x.1.2.1) /\ W.cell? ⟨g, k * 2 + 1, none⟩ = some x.2 := by
 have hc := h
 rcases h.2 with ⟨rfl, h0⟩ | ⟨g, cap, cur, rfl, _⟩
 ·refine ⟨none, 0, by rw [h0], fun k x hk => ?_⟩
  rw [List.eq_nil_of_length_eq_zero h0] at hk
  simp at hk
 ·refine ⟨_, cap, rfl, fun k x hk => ⟨g, rfl, (hc.lt g rfl).2, ?_⟩⟩
  have key : ∀ j u, (grV x)[j]? = some u -> W.cell? ⟨g, k * 2 + j, none⟩ = some u := fun j u hj => by
   have := (hc.cells (g := g) rfl) (k * 2 + j) u (zqg ov k j x u hk hj)
   rwa [Addr.add_lit, Nat.zero_add] at this
  exact ⟨key 0 _ rfl, key 1 _ rfl⟩
open Go.Proofs.YtkihfkcmcdiajaaGreatDoor.T (RdN below_drewN node_neq ndE)
theorem sameq (A1 A2 : Option Addr) (c1 c2 : Nat) (L : List Nd) (hl : L.length <= 140737488355328) (w : World) (h1 : RdN w A1 L) (h2 : RdN w A2 L) :
  Calls Tryz.prog 15 #[.slice A1 L.length c1, .slice A2 L.length c2] w fun e w' => e = .returned (.bool true) /\ ∃ m, w' = w.drewN m := by
 have H1 := hO h1
 have H2 := hO h2
 have HG : Hid (∀ k, k < L.length -> ∃ m, L[k]? = some m /\ L ≠ []) := fun k hk => ⟨_, List.getElem?_eq_getElem hk, by rintro rfl; simp at hk⟩
 clear h1 h2
 go_enter Tryz.func15, Tryz.ntmps15
 go_wp2_with fail
 go_loopw [5] (fun t wr => ∃ k : Nat, k <= L.length /\ t = .int .i64 k /\ Hid (∃ m, wr = w.drewN m)) (fun t _ => L.length - (intOf t).toNat)
 case atStart => exact ⟨0, by omega, by go_num, ⟨0, rfl⟩⟩
 case round =>
  obtain ⟨k, hk, rfl, HW⟩ := hrel
  by_cases hlt : k < L.length
  ·obtain ⟨n, hn1, nl⟩ := HG.out k hlt
   have hB : Below w.heap.size w wr := by obtain ⟨m, rfl⟩ := HW.out; exact below_drewN (Below.refl _ _) _
   obtain ⟨g1, o1, rfl, l1, q1⟩ := H1.out nl
   obtain ⟨g2, o2, rfl, l2, q2⟩ := H2.out nl
   obtain ⟨a0, a1, a2, a3, a4, a5, a6⟩ := (q1.same (hB.block g1 l1)) k n hn1
   obtain ⟨d0, d1, d2, d3, d4, d5, d6⟩ := (q2.same (hB.block g2 l2)) k n hn1
   have z0 : (0 : Int) <= (k : Int) := by omega
   have z1 : (k : Int) < (L.length : Int) := by omega
   clear HG H1 H2 q1 q2 nl hn1 hB
   have hneq := node_neq n n
   rw [T.zme] at hneq
   go_wp2_with fail
   go_quiet (fail)
   have HW2 : Hid (∃ m, wr.drewN nq = w.drewN m) := by obtain ⟨m, e⟩ := HW.out; exact ⟨m + nq, by rw [e, World.drewN_drewN]⟩
   generalize wr.drewN nq = w2 at *
   clear hneq a0 a1 a2 a3 a4 a5 a6 d0 d1 d2 d3 d4 d5 d6 HW
   go_wp2_with fail
   go_roundw
   case rel => exact ⟨k + 1, by omega, by go_num, HW2⟩
   case measure => simp [intOf]; omega
  ·obtain rfl : k = L.length := by omega
   clear HG H1 H2
   go_wp2_with fail
   go_ret
   exact ⟨rfl, HW.out⟩
def GrR (W : World) (u : Value) (gs : List (ByteArray × List Nd)) : Prop := ∃ A c, u = .slice A gs.length c /\ ∀ (k : Nat) g, gs[k]? = some g -> ∃ b A2 c2, A = some ⟨b, 0, none⟩ /\ b < W.heap.size /\ W.cell? ⟨b, k * 2, none⟩ = some (.string g.1) /\ W.cell? ⟨b, k * 2 + 1, none⟩ = some (.slice A2 g.2.length c2) /\ RdN W A2 g.2
theorem GrR.later {W W' : World} {u : Value} {gs : List (ByteArray × List Nd)} (h : GrR W u gs) (hb : Below W.heap.size W W') : GrR W' u gs := by
 obtain ⟨A, c, e, h⟩ := h
 refine ⟨A, c, e, fun k g hg => ?_⟩
 obtain ⟨b, A2, c2, h1, h2, h3, h4, h5⟩ := h k g hg
 exact ⟨b, A2, c2, h1, Nat.lt_of_lt_of_le h2 hb.size, (hb.cell (p := ⟨b, k * 2, none⟩) h2).trans h3, (hb.cell (p := ⟨b, k * 2 + 1, none⟩) h2).trans h4, h5.below hb (Nat.le_refl _)⟩
theorem GrR.nil (W : World) : GrR W (.slice none 0 0) [] := ⟨none, 0, rfl, fun k g hg => by simp at hg⟩
theorem GrR.of {w W : World} {u : Value} {ov : List (Rl × Value)} (h : W.ownsRow w.heap.size 41 2 u ov.length (grc ov)) (hb : Bds w W ov) : GrR W u (ov.map fun x => x.1.2) := by
 obtain ⟨A, c, e, hc⟩ := own_gr h
 refine ⟨A, c, by rw [List.length_map]; exact e, fun k g hg => ?_⟩
 rw [List.getElem?_map] at hg
 cases hx : ov[k]? with
 | none => rw [hx] at hg; cases hg
 | some x =>
  rw [hx] at hg
  obtain rfl : x.1.2 = g := by simpa using hg
  obtain ⟨b, h1, h2, h3, h4⟩ := hc k x hx
  obtain ⟨A2, c2, h5, h6⟩ := T.zn1 (hb.e x (List.mem_of_getElem? hx)) rfl
  exact ⟨b, A2, c2, h1, h2, h3, by rw [h4, h5], h6⟩
structure AtG (w wr : World) (u1 u2 : Value) (gs : List (ByteArray × List Nd)) : Prop where
 b : Below w.heap.size w wr
 x1 : GX wr w.heap.size u1
 x2 : GX wr (w.heap.size + 1) u2
 r1 : GrR wr u1 gs
 r2 : GrR wr u2 gs
theorem AtG.later {w wr W' : World} {u1 u2 : Value} {gs : List (ByteArray × List Nd)} (h : AtG w wr u1 u2 gs) (hb : Below wr.heap.size wr W') : AtG w W' u1 u2 gs :=
 ⟨h.b.trans (hb.mono h.b.size), h.x1.below hb, h.x2.below hb, h.r1.later hb, h.r2.later hb⟩
theorem zgM {gs : List (ByteArray × List Nd)} (hl : ∀ g ∈ gs, g.2.length <= 2048) (hn : gs.length <= 200) {w : World} {u1 u2 : Value} (h1 : GrR w u1 gs) (h2 : GrR w u2 gs) : Calls Tryz.prog 12 #[.agg #[u1], .agg #[u2]] w fun e w' => e = .returned (.bool true) /\ Below w.heap.size w w' := by
 have HA := (show Hid (AtG w ((w.alloc (.cells #[u1] 24)).alloc (.cells #[u2] 24)) u1 u2 gs) from
  ⟨((Below.refl _ _).alloc (Nat.le_refl _) _).alloc (by rw [World.size_alloc]; omega) _, (GX.mk (heap_alloc_new w _)).below (zaa _ _), ⟨by have h := heap_alloc_new (w.alloc (.cells #[u1] 24)) (.cells #[u2] 24); rw [World.size_alloc] at h; exact h⟩, (h1.later (zaa _ _)).later (zaa _ _), (h2.later (zaa _ _)).later (zaa _ _)⟩)
 obtain ⟨A1, c1, rfl, _⟩ := h1
 obtain ⟨A2, c2, rfl, _⟩ := h2
 have HG : Hid (∀ k, k < gs.length -> ∃ g, gs[k]? = some g /\ g.2.length <= 2048) := fun k hk => ⟨_, List.getElem?_eq_getElem hk, hl _ (List.getElem_mem hk)⟩
 clear hl
 have q1 := HA.out.x1.cl
 have q2 := HA.out.x2.cl
 go_enter Tryz.func12, Tryz.ntmps12
 go_wp2_with fail
 generalize (w.alloc (.cells #[.slice A1 gs.length c1] 24)).alloc (.cells #[.slice A2 gs.length c2] 24) = w1 at *
 go_wp2_with fail
 clear q1 q2
 go_loopw [5] (fun t wr => ∃ k : Nat, k <= gs.length /\ t = .int .i64 k /\ Hid (AtG w wr (.slice A1 gs.length c1) (.slice A2 gs.length c2) gs)) (fun t _ => gs.length - (intOf t).toNat)
 case atStart => exact ⟨0, by omega, by go_num, HA⟩
 case round =>
  obtain ⟨k, hk, rfl, HW⟩ := hrel
  clear HA
  have q1 := HW.out.x1.cl
  have q2 := HW.out.x2.cl
  by_cases hlt : k < gs.length
  ·obtain ⟨g, hg, hgl⟩ := HG.out k hlt
   obtain ⟨A3, c3, e3, hc3⟩ := HW.out.r1
   obtain ⟨A4, c4, e4, hc4⟩ := HW.out.r2
   obtain ⟨b1, B1, d1, hA1, l1, y0, y1, r1⟩ := hc3 k g hg
   obtain ⟨b2, B2, d2, hA2, l2, x0, x1, r2⟩ := hc4 k g hg
   cases e3
   cases e4
   subst hA1 hA2
   have HS : Hid (∀ n, Calls Tryz.prog 15 #[.slice B1 g.2.length d1, .slice B2 g.2.length d2] (wr.drewN n) fun e w' => e = .returned (.bool true) /\ ∃ m, w' = (wr.drewN n).drewN m) := fun n => sameq B1 B2 d1 d2 g.2 (by omega) _ (r1.below (below_drewN (Below.refl _ _) _) (Nat.le_refl _)) (r2.below (below_drewN (Below.refl _ _) _) (Nat.le_refl _))
   have z0 : (0 : Int) <= (k : Int) := by omega
   have z1 : (k : Int) < (gs.length : Int) := by omega
   clear HG hc3 hc4 r1 r2 hg hgl
   generalize g.2.length = gl at *
   generalize g.1 = nm at *
   go_wp2_with fail
   go_quiet ((go_at_call 15; exact Calls.quiet_of (HS.out _)))
   have HW2 : Hid (AtG w (wr.drewN nq) (.slice (some ⟨b1, 0, none⟩) gs.length c1) (.slice (some ⟨b2, 0, none⟩) gs.length c2) gs) := HW.out.later (below_drewN (Below.refl _ _) _)
   generalize wr.drewN nq = w2 at *
   clear HW q1 q2 y0 y1 x0 x1
   go_wp2_with fail
   go_roundw
   case rel => exact ⟨k + 1, by omega, by go_num, HW2⟩
   case measure => simp [intOf]; omega
  ·obtain rfl : k = gs.length := by omega
   clear HG
   go_wp2_with fail
   go_ret
   exact ⟨rfl, HW.out.b⟩
theorem zns (E E' : PE) (z z' : Nat) : ∀ (rs : List Rl) (all : Nat), (zfb E z all rs).map (·.2) = (zfb E' z' all rs).map (·.2) := by
 intro rs
 induction rs with
 | nil => intro all; rw [zfb, zfb]
 | cons r rs ih =>
  intro all
  rw [zfb, zfb]
  by_cases h1 : (T.ck r.2.2).2 ≠ 0
  ·rw [if_pos h1, if_pos h1]; rfl
  ·rw [if_neg h1, if_neg h1]
   by_cases h2 : 2048 < all + r.2.2.length
   ·rw [if_pos h2, if_pos h2]; rfl
   ·rw [if_neg h2, if_neg h2]; exact ih _
theorem zqh (E E' : PE) (z z' : Nat) (rs : List Rl) : (szR E z rs).map (·.2) = (szR E' z' rs).map (·.2) := by
 unfold szR
 cases rs[200]? with
 | some r => rfl
 | none => exact zns E E' z z' rs 0
theorem zqi (E E' : PE) (z z' : Nat) (r : Sum (List Rl) (Nat × Int)) : (∃ gs, fin E z r = .inl gs /\ fin E' z' r = .inl gs) ∨ ∃ p p' c, fin E z r = .inr (p, c) /\ fin E' z' r = .inr (p', c) := by
 cases r with
 | inr q => exact .inr ⟨_, _, q.2, rfl, rfl⟩
 | inl rs =>
  have h := zqh E E' z z' rs
  unfold fin
  dsimp only
  cases h1 : szR E z rs with
  | none =>
   rw [h1] at h
   cases h2 : szR E' z' rs with
   | none => exact .inl ⟨_, rfl, rfl⟩
   | some p => rw [h2] at h; cases h
  | some p =>
   rw [h1] at h
   cases h2 : szR E' z' rs with
   | none => rw [h2] at h; cases h
   | some p' =>
    rw [h2] at h
    have h : p.2 = p'.2 := by simpa using h
    exact .inr ⟨p.1, p'.1, p.2, rfl, by rw [h]⟩
theorem znt {s : ByteArray} {l : List Tk} (hl : zbn (zaE s) s = .inl l) (h : (txR l).2 = 0) : (∃ gs, psR s = .inl gs /\ psR (txR l).1 = .inl gs) ∨ ∃ p p' c, psR s = .inr (p, c) /\ psR (txR l).1 = .inr (p', c) := by
 have hr := zdr hl
 rcases zpZ l with ⟨_, h1, _, h2⟩ | ⟨h1, _⟩
 ·obtain ⟨M, h3, h4⟩ := znf l (fun t ht => (hr t ht).r) (fun t ht => (hr t ht).b) h2
  have e1 : (txR l).1 = txO (jT l l.length) := by rw [h1]
  rw [e1]
  unfold psR
  rw [hl, h3]
  have e2 : rdN (mkE M) = rdN (mkE l) := zom (alk_lk h4 rnP T.tmB) (len_lk h4)
  dsimp only
  rw [e2]
  exact zqi _ _ _ _ _
 ·exact absurd h h1
end Go.Proofs.YtkihfkcmcdiajaaGreatDoor.N
namespace Go.Proofs.YtkihfkcmcdiajaaGreatDoor
open Go.RowKit
def sgF (s : ByteArray) (b n k : Nat) : Bool := decide ((sgn k).length = n) && pfx s b (sgn k)
def sgL (s : ByteArray) (b n : Nat) : Nat -> Nat -> Option Nat
 | 0, _ => none
 | f + 1, k => if sgF s b n k = true then some k else sgL s b n f (k + 1)
abbrev zqj (b n k : Nat) : Tk := ⟨k, 0, b, (b + n : Nat), ⟨#[]⟩, 0, 0, 0, 0⟩
def sgR (s : ByteArray) (b : Nat) : Sum Tk (Nat × Int) := match sgL s b 2 30 1 with
 | some k => .inl (zqj b 2 k)
 | none => match sgL s b 1 30 1 with
  | some k => .inl (zqj b 1 k)
  | none => .inr (b, 50)
def zee (c0 c1 : Int) (n : Nat) : Nat -> Nat -> Option Nat
 | 0, _ => none
 | f + 1, k => if (sgn k).length = n /\ pfC c0 c1 (sgn k) = true then some k else zee c0 c1 n f (k + 1)
theorem zqk (k : Nat) : (sgn k).length <= 2 := by
 by_cases h6 : k = 6
 ·subst h6; decide
 by_cases h27 : k = 27
 ·subst h27; decide
 by_cases h7 : k = 7
 ·subst h7; decide
 by_cases h8 : k = 8
 ·subst h8; decide
 by_cases h9 : k = 9
 ·subst h9; decide
 by_cases h10 : k = 10
 ·subst h10; decide
 by_cases h11 : k = 11
 ·subst h11; decide
 by_cases h12 : k = 12
 ·subst h12; decide
 by_cases h16 : k = 16
 ·subst h16; decide
 by_cases h17 : k = 17
 ·subst h17; decide
 by_cases h18 : k = 18
 ·subst h18; decide
 by_cases h22 : k = 22
 ·subst h22; decide
 by_cases h23 : k = 23
 ·subst h23; decide
 by_cases h24 : k = 24
 ·subst h24; decide
 by_cases h25 : k = 25
 ·subst h25; decide
 by_cases h26 : k = 26
 ·subst h26; decide
 by_cases h19 : k = 19
 ·subst h19; decide
 by_cases h20 : k = 20
 ·subst h20; decide
 unfold sgn
 simp [*]
theorem sgL_C (s : ByteArray) (b n : Nat) : ∀ f k, sgL s b n f k = zee (chr s b) (chr s (b + 1)) n f k := by
 intro f
 induction f with
 | zero => intro k; rfl
 | succ f ih =>
  intro k
  rw [sgL, zee, ih, sgF, pfx_C s b (sgn k) (zqk k)]
  simp only [Bool.and_eq_true, decide_eq_true_eq]
def sgRC (c0 c1 : Int) : Int × Nat := match zee c0 c1 2 30 1 with
 | some k => (k, 2)
 | none => match zee c0 c1 1 30 1 with
  | some k => (k, 1)
  | none => (0, 0)
theorem sgRC_C (c0 c1 : Int) (h37 : c0 ≠ 37) (h94 : c0 ≠ 94) (hg : ¬ (c0 = 123 /\ c1 = 58)) : sgRC c0 c1 = ((sgC c0 c1).1, (sgC c0 c1).2.length) := by
 unfold sgRC sgC
 rw [if_neg h37, if_neg h94]
 by_cases h60 : c0 = 60
 ·subst h60
  by_cases a45 : c1 = 45 <;> first | (exfalso; exact hg ⟨rfl, by assumption⟩) | (simp [zee, sgn, pfC, *])
 by_cases h45 : c0 = 45
 ·subst h45
  by_cases a62 : c1 = 62 <;> first | (exfalso; exact hg ⟨rfl, by assumption⟩) | (simp [zee, sgn, pfC, *])
 by_cases h47 : c0 = 47
 ·subst h47
  simp [zee, sgn, pfC]
 by_cases h38 : c0 = 38
 ·subst h38
  simp [zee, sgn, pfC]
 by_cases h33 : c0 = 33
 ·subst h33
  simp [zee, sgn, pfC]
 by_cases h63 : c0 = 63
 ·subst h63
  simp [zee, sgn, pfC]
 by_cases h42 : c0 = 42
 ·subst h42
  simp [zee, sgn, pfC]
 by_cases h43 : c0 = 43
 ·subst h43
  simp [zee, sgn, pfC]
 by_cases h40 : c0 = 40
 ·subst h40
  simp [zee, sgn, pfC]
 by_cases h41 : c0 = 41
 ·subst h41
  simp [zee, sgn, pfC]
 by_cases h46 : c0 = 46
 ·subst h46
  simp [zee, sgn, pfC]
 by_cases h123 : c0 = 123
 ·subst h123
  by_cases a58 : c1 = 58 <;> by_cases a124 : c1 = 124 <;> by_cases a126 : c1 = 126 <;> first | (exfalso; exact hg ⟨rfl, by assumption⟩) | (simp [zee, sgn, pfC, *])
 by_cases h58 : c0 = 58
 ·subst h58
  by_cases a125 : c1 = 125 <;> first | (exfalso; exact hg ⟨rfl, by assumption⟩) | (simp [zee, sgn, pfC, *])
 by_cases h124 : c0 = 124
 ·subst h124
  by_cases a125 : c1 = 125 <;> first | (exfalso; exact hg ⟨rfl, by assumption⟩) | (simp [zee, sgn, pfC, *])
 by_cases h126 : c0 = 126
 ·subst h126
  by_cases a125 : c1 = 125 <;> first | (exfalso; exact hg ⟨rfl, by assumption⟩) | (simp [zee, sgn, pfC, *])
 by_cases h125 : c0 = 125
 ·subst h125
  simp [zee, sgn, pfC]
 simp [zee, sgn, pfC, *]
theorem sgR_C (s : ByteArray) (b : Nat) : sgR s b = if (sgRC (chr s b) (chr s (b + 1))).1 = 0 then .inr (b, 50) else .inl ⟨(sgRC (chr s b) (chr s (b + 1))).1, 0, b, (b + (sgRC (chr s b) (chr s (b + 1))).2 : Nat), ⟨#[]⟩, 0, 0, 0, 0⟩ := by
 have hpos : ∀ n f k j, 1 <= k -> zee (chr s b) (chr s (b + 1)) n f k = some j -> 1 <= j := by
  intro n f
  induction f with
  | zero => intro k j _ h; cases h
  | succ f ih =>
   intro k j hk h
   rw [zee] at h
   split at h
   ·cases h; exact hk
   ·exact ih _ _ (by omega) h
 unfold sgR sgRC
 rw [sgL_C, sgL_C]
 cases h2 : zee (chr s b) (chr s (b + 1)) 2 30 1 with
 | some k =>
  have := hpos _ _ _ _ (by omega) h2
  dsimp only
  rw [if_neg (by omega)]
 | none =>
  dsimp only
  cases h1 : zee (chr s b) (chr s (b + 1)) 1 30 1 with
  | some k =>
   have := hpos _ _ _ _ (by omega) h1
   dsimp only
   rw [if_neg (by omega)]
  | none => dsimp only; rw [if_pos rfl]
theorem zql (s : ByteArray) (b : Nat) (l : List UInt8) (h : b + l.length <= s.size) : pfx s b l = ((s.extract b (b + l.length)).data.toList == l) := by
 induction l generalizing b with
 | nil =>
  have : (s.extract b (b + ([] : List UInt8).length)).data.toList = [] := by
   have h1 : (s.extract b (b + ([] : List UInt8).length)).size = 0 := by rw [ByteArray.size_extract]; simp; omega
   exact List.eq_nil_of_length_eq_zero h1
  rw [this]; rfl
 | cons c l ih =>
  rw [List.length_cons] at h
  have hb : b < s.size := by omega
  have e : (s.extract b (b + (c :: l).length)).data.toList = s[b] :: (s.extract (b + 1) (b + 1 + l.length)).data.toList := by
   have h1 : s.data.size = s.size := rfl
   have hd : b < s.data.size := hb
   rw [ByteArray.data_extract, ByteArray.data_extract, Array.toList_extract, Array.toList_extract, List.extract_eq_take_drop, List.extract_eq_take_drop, List.length_cons,
    List.drop_eq_getElem_cons (by rw [Array.length_toList]; omega), show b + (l.length + 1) - b = l.length + 1 from by omega, show b + 1 + l.length - (b + 1) = l.length from by omega, List.take_succ_cons]
   rfl
  rw [pfx, e, ih (b + 1) (by omega), zal hb]
  show _ = (s[b] == c && _)
  congr 1
  by_cases q : s[b] = c
  ·rw [q]; simp
  ·have h2 : ¬ (s[b].toNat : Int) = (c.toNat : Int) := fun e => q (UInt8.toNat_inj.1 (by omega))
   rw [bF q, bF h2]
theorem znu (s : ByteArray) (b : Nat) : ∀ (l : List UInt8), b <= s.size -> s.size < b + l.length -> pfx s b l = false := by
 intro l hb h
 cases hp : pfx s b l with
 | false => rfl
 | true =>
  exfalso
  have key : ∀ (l : List UInt8) (i : Nat), i <= s.size -> pfx s i l = true -> i + l.length <= s.size := by
   intro l
   induction l with
   | nil => intro i h _; exact h
   | cons c l ih =>
    intro i h hp
    rw [pfx, Bool.and_eq_true] at hp
    have h1 : i < s.size := zau (by rw [beq_iff_eq.1 hp.1]; omega)
    have := ih (i + 1) (by omega) hp.2
    rw [List.length_cons]; omega
  have := key l b hb hp
  omega
structure AtZ (w wr : World) : Prop where
 b : Below w.heap.size w wr
 x : TX wr w.heap.size tk0
theorem AtZ.step {w wr W : World} (h : AtZ w wr) (hb : Below wr.heap.size wr W) : AtZ w W := ⟨h.b.trans (hb.mono h.b.size), h.x.below hb⟩
theorem znv (s : ByteArray) (b : Nat) (hs : s.size <= 140737488355000) (hb : b < s.size) (w : World) : Calls Tryz.prog 67 #[.string s, .int .i64 b] w fun e w' => e = .returned (zcG (sgR s b)) /\ Below w.heap.size w w' := by
 have HWr : Hid (∀ i e w, Calls Tryz.prog 58 #[.int .i64 i, .int .i64 e] w fun e' w' => e' = .returned (.tuple #[tkG tk0, .int .i64 i, .int .i64 e]) /\ Below w.heap.size w w') := fun i e w => zbO i e w
 have HSi : Hid (∀ k w, 1 <= k -> k <= 30 -> Calls Tryz.prog 72 #[.int .i64 ((k : Nat) : Int)] w fun e w' => e = .returned (.string ⟨(sgn k).toArray⟩) /\ Below w.heap.size w w') := fun k w h1 h2 => zhw k h1 h2 w
 have H0 : Hid (AtZ w (w.alloc (tkO tk0))) := ⟨zaa w _, TX.new w tk0⟩
 have HR := (show Hid (sgR s b = match sgL s b 2 30 1 with
  | some k => .inl (zqj b 2 k)
  | none => match sgL s b 1 30 1 with
   | some k => .inl (zqj b 1 k)
   | none => .inr (b, 50)) from rfl)
 go_enter Tryz.func67, Tryz.ntmps67
 go_wp2_with fail
 go_loopw [7] (fun t wr => ∃ n : Nat, n <= 2 /\ t = .int .i64 n /\ Hid (AtZ w wr) /\ Hid ((n <= 1 -> sgL s b 2 30 1 = none) /\ (n = 0 -> sgL s b 1 30 1 = none))) (fun t _ => (intOf t).toNat)
 case atStart => exact ⟨2, by omega, rfl, H0, ⟨fun q => by omega, fun q => by omega⟩⟩
 case round =>
  obtain ⟨n, hn, rfl, HW, HP⟩ := hrel
  clear H0
  by_cases hn0 : n = 0
  ·subst hn0
   have HE : Hid (sgR s b = .inr (b, 50)) := by show sgR s b = _; rw [HR.out, HP.out.1 (by omega), HP.out.2 rfl]
   clear HSi HR HP
   go_wp2_with fail
   refine (HWr.out _ _ _).mono ?_
   rintro e w3 ⟨rfl, b3⟩
   have HX3 : Hid (AtZ w w3) := HW.out.step b3
   clear b3 HW HWr
   obtain ⟨c0, c1, c2, c3, c4, c5, c6, c7, c8⟩ := HX3.out.x.cells
   obtain ⟨f0, f1', f2', f3, f4, f5, f6, f7, f8⟩ := HX3.out.x.fz
   go_wp2_with fail
   exact zah rfl rfl rfl rfl rfl (zar HX3.out.x tk0) ⟨by rw [HE.out]; rfl, zad HX3.out.b (Nat.le_refl _) tk0⟩
  ·have t1 : (1 : Int) <= (n : Int) := by omega
   go_wp2_with fail
   obtain ⟨wO, rfl⟩ : ∃ W, W = wr := ⟨wr, rfl⟩
   go_loopw [8] (fun t wr => ∃ k : Nat, 1 <= k /\ k <= 31 /\ t = .int .i64 k /\ Hid (AtZ w wr) /\ Hid (sgL s b n (31 - k) k = sgL s b n 30 1)) (fun t _ => 31 - (intOf t).toNat)
   case atStart => exact ⟨1, by omega, by omega, by go_num, HW, rfl⟩
   case round =>
    obtain ⟨k, hk1, hk2, rfl, HV, HK⟩ := hrel
    clear HW
    by_cases hk : k <= 30
    ·have z1 : (k : Int) <= 30 := by omega
     have HSk := (show Hid _ from fun w => HSi.out k w hk1 hk)
     have HU : Hid (sgL s b n 30 1 = if sgF s b n k = true then some k else sgL s b n (31 - (k + 1)) (k + 1)) := by
      show sgL s b n 30 1 = _
      rw [<- HK.out, show 31 - k = (31 - (k + 1)) + 1 from by omega, sgL]
     have hsz : (⟨(sgn k).toArray⟩ : ByteArray).size = (sgn k).length := by show (sgn k).toArray.size = _; simp
     have HF1 : Hid (¬ (sgn k).length = n -> sgF s b n k = false) := fun q => by unfold sgF; rw [decide_eq_false q]; rfl
     have HF2 : Hid ((sgn k).length = n -> ¬ b + n <= s.size -> sgF s b n k = false) := fun q q2 => by unfold sgF; rw [znu s b _ (by omega) (by omega), Bool.and_false]
     have HF3 : Hid ((sgn k).length = n -> b + n <= s.size -> sgF s b n k = ((s.extract b (b + n)).toList == sgn k)) := fun q q2 => by unfold sgF; rw [decide_eq_true q, Bool.true_and, zql s b _ (by omega), q, ByteArray.toList_eq]
     by_cases hl : (sgn k).length = n
     ·by_cases hin : b + n <= s.size
      ·have hf := HF3.out hl hin
       have z2 : (b : Int) + (n : Int) <= (s.size : Int) := by omega
       have z3 : (0 : Int) <= (b : Int) := by omega
       have z4 : (b : Int) <= (b : Int) + (n : Int) := by omega
       have v1 : (((⟨(sgn k).toArray⟩ : ByteArray).size : Int) == (n : Int)) = true := by rw [hsz, hl]; exact beq_self_eq_true _
       cases hq : ((s.extract b (b + n)).toList == sgn k) with
       | true =>
        rw [hq] at hf
        have HE : Hid (sgR s b = .inl (zqj b n k)) := by
         show sgR s b = _
         have hL : sgL s b n 30 1 = some k := by rw [HU.out, if_pos hf]
         by_cases h2 : n = 2
         ·subst h2; rw [HR.out, hL]
         ·obtain rfl : n = 1 := by omega
          rw [HR.out, HP.out.1 (by omega), hL]
        clear HF1 HF2 HF3 HU HK HSi HWr HR HP hf hin hsz
        go_wp2_with fail
        refine (HSk.out _).mono ?_
        rintro e w3 ⟨rfl, b3⟩
        have HV3 : Hid (AtZ w w3) := HV.out.step b3
        clear b3 HV HSk
        obtain ⟨c0, c1, c2, c3, c4, c5, c6, c7, c8⟩ := HV3.out.x.cells
        obtain ⟨f0, f1', f2', f3, f4, f5, f6, f7, f8⟩ := HV3.out.x.fz
        go_wp2_with fail
        exact zah rfl rfl rfl rfl rfl (zar HV3.out.x (zqj b n k)) ⟨by rw [HE.out]; rfl, zad HV3.out.b (Nat.le_refl _) (zqj b n k)⟩
       | false =>
        rw [hq] at hf
        have HK2 : Hid (sgL s b n (31 - (k + 1)) (k + 1) = sgL s b n 30 1) := by show _ = sgL s b n 30 1; rw [HU.out, if_neg (by rw [hf]; decide)]
        clear HF1 HF2 HF3 HU HK HSi HWr HR HP hf hin hsz
        go_wp2_with fail
        refine (HSk.out _).mono ?_
        rintro e w3 ⟨rfl, b3⟩
        have HV3 : Hid (AtZ w w3) := HV.out.step b3
        clear b3 HV HSk
        go_wp2_with fail
        go_roundw
        case rel => exact ⟨k + 1, by omega, by omega, by go_num, HV3, HK2⟩
        case measure => simp [intOf]; omega
      ·have hf := HF2.out hl hin
       have z2 : ¬ (b : Int) + (n : Int) <= (s.size : Int) := by omega
       have v1 : (((⟨(sgn k).toArray⟩ : ByteArray).size : Int) == (n : Int)) = true := by rw [hsz, hl]; exact beq_self_eq_true _
       have HK2 : Hid (sgL s b n (31 - (k + 1)) (k + 1) = sgL s b n 30 1) := by show _ = sgL s b n 30 1; rw [HU.out, if_neg (by rw [hf]; decide)]
       clear HF1 HF2 HF3 HU HK HSi HWr HR HP hf hin hsz
       go_wp2_with fail
       refine (HSk.out _).mono ?_
       rintro e w3 ⟨rfl, b3⟩
       have HV3 : Hid (AtZ w w3) := HV.out.step b3
       clear b3 HV HSk
       go_wp2_with fail
       go_roundw
       case rel => exact ⟨k + 1, by omega, by omega, by go_num, HV3, HK2⟩
       case measure => simp [intOf]; omega
     ·have hf := HF1.out hl
      have v1 : (((⟨(sgn k).toArray⟩ : ByteArray).size : Int) == (n : Int)) = false := by rw [hsz, beq_eq_false_iff_ne]; omega
      have HK2 : Hid (sgL s b n (31 - (k + 1)) (k + 1) = sgL s b n 30 1) := by show _ = sgL s b n 30 1; rw [HU.out, if_neg (by rw [hf]; decide)]
      clear HF1 HF2 HF3 HU HK HSi HWr HR HP hf hsz hl
      generalize ByteArray.mk (sgn k).toArray = tx at *
      go_wp2_with fail
      refine (HSk.out _).mono ?_
      rintro e w3 ⟨rfl, b3⟩
      have HV3 : Hid (AtZ w w3) := HV.out.step b3
      clear b3 HV HSk
      go_wp2_with fail
      go_roundw
      case rel => exact ⟨k + 1, by omega, by omega, by go_num, HV3, HK2⟩
      case measure => simp [intOf]; omega
    ·obtain rfl : k = 31 := by omega
     have z1 : ¬ ((31 : Nat) : Int) <= 30 := by omega
     have HK2 : Hid (sgL s b n 30 1 = none) := HK.out.symm.trans rfl
     have HP2 := (show Hid ((n - 1 <= 1 -> sgL s b 2 30 1 = none) /\ (n - 1 = 0 -> sgL s b 1 30 1 = none)) from by
      by_cases h2 : n = 2
      ·subst h2; exact ⟨fun _ => HK2.out, fun q => by omega⟩
      ·obtain rfl : n = 1 := by omega
       exact ⟨fun _ => HP.out.1 (by omega), fun _ => HK2.out⟩)
     clear HK HK2 HSi HWr HR HP
     obtain ⟨n1, hn1⟩ : ∃ m, m = n - 1 := ⟨_, rfl⟩
     rw [<- hn1] at HP2
     have u1 : IntKind.i64.wrap ((n : Int) - 1) = (n1 : Int) := by rw [IntKind.wrap_i64]; omega
     have hn2 : n1 < n := by omega
     clear hn1
     go_wp2_with fail
     go_roundw
     case rel => exact ⟨n1, by omega, rfl, HV, HP2⟩
     case measure => simp [intOf]; omega
theorem hx7_sp (s : ByteArray) : ∀ (k i : Nat), hx7 s i k = if spN hxB s i - i <= k then spN hxB s i else i + k := by
 intro k
 induction k with
 | zero =>
  intro i
  have := za4 hxB s (by decide) i
  rw [hx7]
  split <;> omega
 | succ k ih =>
  intro i
  rw [hx7]
  by_cases h : 0 <= zaH (chr s i)
  ·rw [if_pos h, ih (i + 1)]
   have h1 := (za3 (P := hxB) (s := s) (i := i) (by decide) (hxB_hexV.2 h)).2
   have := za4 hxB s (by decide) (i + 1)
   rw [h1]
   by_cases q : spN hxB s (i + 1) - (i + 1) <= k
   ·rw [if_pos q, if_pos (by omega)]
   ·rw [if_neg q, if_neg (by omega)]; omega
  ·have h1 : spN hxB s i = i := zbq (by
    cases hh : hxB (chr s i) with
    | false => rfl
    | true => exact absurd (hxB_hexV.1 hh) h)
   rw [if_neg h, h1, if_pos (by omega)]
theorem zlP (s : ByteArray) (i : Nat) : zbT s i = if spN hxB s i - i <= 7 then spN hxB s i else i + 7 := hx7_sp s 7 i
theorem pt_ok {s : ByteArray} {a : Nat} (h : (ptP s a).2.2 = true) : zbT s a = (ptP s a).2.1 /\ zbT s a ≠ a /\ ¬ a + 6 < zbT s a /\ zaB s a 16 (zbT s a - a) = (ptP s a).1 /\ (ptP s a).1 <= 1114111 := by
 have hbd := zdd h
 have hge := za4 hxB s (by decide) a
 rw [zlP]
 unfold ptP at h hbd ⊢
 split at h
 ·cases h
 ·next q =>
  rw [if_neg q] at hbd
  rw [if_neg q, if_pos (by omega)]
  exact ⟨rfl, by omega, by omega, rfl, hbd⟩
theorem pt_no {s : ByteArray} {a : Nat} (h : (ptP s a).2.2 = false) : zbT s a = a ∨ a + 6 < zbT s a ∨ 1114111 < zaB s a 16 (zbT s a - a) := by
 have hge := za4 hxB s (by decide) a
 rw [zlP]
 unfold ptP at h
 split at h
 ·next q =>
  rcases q with q | q
  ·left; rw [q]; rw [if_pos (by omega)]
  ·right; left
   split <;> omega
 ·next q =>
  right; right
  rw [if_pos (by omega)]
  have := of_decide_eq_false h
  omega
theorem znw (s : ByteArray) (b : Nat) : zb2 s b = zb5 s b := by
 unfold zb2 zb5
 dsimp only
 cases h1 : (ptP s (b + 3)).2.2 with
 | false =>
  rw [if_pos rfl]
  rcases pt_no h1 with q | q | q
  ·rw [if_pos (.inl q)]
  ·rw [if_pos (.inr (.inl q))]
  ·by_cases c : zbT s (b + 3) = b + 3 ∨ b + 3 + 6 < zbT s (b + 3) ∨ (if chr s (zbT s (b + 3)) = 45 then zbT s (zbT s (b + 3) + 1) else zbT s (b + 3)) = (if chr s (zbT s (b + 3)) = 45 then zbT s (b + 3) + 1 else b + 3) ∨ (if chr s (zbT s (b + 3)) = 45 then zbT s (b + 3) + 1 else b + 3) + 6 < (if chr s (zbT s (b + 3)) = 45 then zbT s (zbT s (b + 3) + 1) else zbT s (b + 3)) ∨ chr s (if chr s (zbT s (b + 3)) = 45 then zbT s (zbT s (b + 3) + 1) else zbT s (b + 3)) ≠ 125
   ·rw [if_pos c]
   ·rw [if_neg c, if_pos (by omega)]
 | true =>
  obtain ⟨a1, a2, a3, a4, a5⟩ := pt_ok h1
  rw [if_neg (by decide), a1, <- a4, a1]
  rw [a1] at a2 a3 a4
  by_cases h45 : chr s (ptP s (b + 3)).2.1 = 45
  ·rw [if_pos h45, if_pos h45, if_pos h45]
   cases h2 : (ptP s ((ptP s (b + 3)).2.1 + 1)).2.2 with
   | false =>
    rw [if_pos (.inl rfl)]
    rcases pt_no h2 with q | q | q
    ·rw [if_pos (.inr (.inr (.inl q)))]
    ·rw [if_pos (.inr (.inr (.inr (.inl q))))]
    ·split
     ·rfl
     ·rw [if_pos (.inr q)]
   | true =>
    obtain ⟨b1, b2, b3, b4, b5⟩ := pt_ok h2
    rw [b1]
    rw [b1] at b2 b3 b4
    rw [b4]
    by_cases hlt : (ptP s ((ptP s (b + 3)).2.1 + 1)).1 < zaB s (b + 3) 16 ((ptP s (b + 3)).2.1 - (b + 3))
    ·rw [if_pos (.inr hlt)]
     split
     ·rfl
     ·rw [if_pos (.inl hlt)]
    ·rw [if_neg (by simp; omega)]
     by_cases h125 : chr s (ptP s ((ptP s (b + 3)).2.1 + 1)).2.1 = 125
     ·rw [if_pos h125, if_neg (by omega), if_neg (by omega)]; rfl
     ·rw [if_neg h125, if_pos (by omega)]
  ·rw [if_neg h45, if_neg h45, if_neg h45]
   by_cases h125 : chr s (ptP s (b + 3)).2.1 = 125
   ·rw [if_pos h125, if_neg (by omega), if_neg (by omega)]; rfl
   ·rw [if_neg h125, if_pos (by omega)]
theorem zlQ (c0 c1 : Int) : (((sgC c0 c1).1 = 13 ∨ (sgC c0 c1).1 = 14 ∨ (sgC c0 c1).1 = 15) -> c0 = 94) /\ ((sgC c0 c1).1 = 21 -> c0 = 123 /\ c1 = 58) := by
 unfold sgC
 by_cases h37 : c0 = 37
 ·subst h37
  by_cases a101 : c1 = 101 <;> by_cases a102 : c1 = 102 <;> simp_all
 by_cases h94 : c0 = 94
 ·subst h94
  by_cases a43 : c1 = 43 <;> by_cases a45 : c1 = 45 <;> simp_all
 by_cases h60 : c0 = 60
 ·subst h60
  by_cases a45 : c1 = 45 <;> simp_all
 by_cases h45 : c0 = 45
 ·subst h45
  by_cases a62 : c1 = 62 <;> simp_all
 by_cases h47 : c0 = 47
 ·subst h47
  simp
 by_cases h38 : c0 = 38
 ·subst h38
  simp
 by_cases h33 : c0 = 33
 ·subst h33
  simp
 by_cases h63 : c0 = 63
 ·subst h63
  simp
 by_cases h42 : c0 = 42
 ·subst h42
  simp
 by_cases h43 : c0 = 43
 ·subst h43
  simp
 by_cases h40 : c0 = 40
 ·subst h40
  simp
 by_cases h41 : c0 = 41
 ·subst h41
  simp
 by_cases h46 : c0 = 46
 ·subst h46
  simp
 by_cases h123 : c0 = 123
 ·subst h123
  by_cases a58 : c1 = 58 <;> by_cases a124 : c1 = 124 <;> by_cases a126 : c1 = 126 <;> simp_all
 by_cases h58 : c0 = 58
 ·subst h58
  by_cases a125 : c1 = 125 <;> simp_all
 by_cases h124 : c0 = 124
 ·subst h124
  by_cases a125 : c1 = 125 <;> simp_all
 by_cases h126 : c0 = 126
 ·subst h126
  by_cases a125 : c1 = 125 <;> simp_all
 by_cases h125 : c0 = 125
 ·subst h125
  simp
 simp [*]
def lgG (s : ByteArray) (b : Nat) : Prop := chr s b = 123 /\ chr s (b + 1) = 58 /\ hdB (chr s (b + 2)) = true /\ 32 < spN nmB s (b + 2) - (b + 2) /\ chr s (spN nmB s (b + 2)) ≠ 58
theorem znx (s : ByteArray) (b : Nat) (h : chr s b = 94) : zbr s b = zeg s b := by
 have e : zap s b = if chr s (b + 1) = 43 then (14, [94, 43]) else if chr s (b + 1) = 45 then (15, [94, 45]) else (13, [94]) := by
  rw [zbj, h]; unfold sgC; rw [if_neg (by decide), if_pos rfl]
 unfold zbr zeg
 rw [e]
 dsimp only
 by_cases h43 : chr s (b + 1) = 43
 ·rw [if_pos h43]; simp only [h43]; rfl
 ·by_cases h45 : chr s (b + 1) = 45
  ·rw [if_neg h43, if_pos h45]; simp only [h45]; rfl
  ·have ho : ¬ (chr s (b + 1) = 43 ∨ chr s (b + 1) = 45) := by omega
   rw [if_neg h43, if_neg h45, if_neg h43, if_neg h45, if_neg ho]; rfl
theorem zny (s : ByteArray) (b : Nat) (h : chr s b = 123) (h2 : chr s (b + 1) = 58) : (lgG s b -> zbr s b = .inr (b + 2, 2) /\ zfi s b = .inl (nlT b (b + 2))) /\ (¬ lgG s b -> zbr s b = zfi s b) := by
 have e : zap s b = (21, [123, 58]) := by
  rw [zbj, h, h2]; rfl
 have es : zbr s b = zcv s b (b + 2) := by
  unfold zbr
  rw [e]
  rfl
 rw [es]
 unfold zcv zfi lgG
 have e2 : spN nmB s (b + 2) - b - 2 = spN nmB s (b + 2) - (b + 2) := by omega
 rw [e2]
 refine ⟨fun ⟨_, _, q3, q4, q5⟩ => ?_, fun hn => ?_⟩
 ·have hA : ¬ (hdB (chr s (b + 2)) = true /\ chr s (spN nmB s (b + 2)) = 58) := fun q => q5 q.2
  rw [if_pos q3, if_pos q4, if_neg hA]; exact ⟨rfl, rfl⟩
 ·by_cases q1 : hdB (chr s (b + 2)) = true
  ·rw [if_pos q1]
   by_cases q3 : chr s (spN nmB s (b + 2)) = 58
   ·have hA : hdB (chr s (b + 2)) = true /\ chr s (spN nmB s (b + 2)) = 58 := ⟨q1, q3⟩
    rw [if_pos hA, if_pos q3]
    by_cases q2 : 32 < spN nmB s (b + 2) - (b + 2)
    ·rw [if_pos q2, if_pos q2]
    ·rw [if_neg q2, if_neg q2]; rfl
   ·have hA : ¬ (hdB (chr s (b + 2)) = true /\ chr s (spN nmB s (b + 2)) = 58) := fun q => q3 q.2
    have q2 : ¬ 32 < spN nmB s (b + 2) - (b + 2) := fun q => hn ⟨h, h2, q1, q, q3⟩
    rw [if_neg hA, if_neg q2, if_neg q3]; rfl
  ·have hA : ¬ (hdB (chr s (b + 2)) = true /\ chr s (spN nmB s (b + 2)) = 58) := fun q => q1 q.1
   rw [if_neg q1, if_neg hA]; rfl
theorem znz (s : ByteArray) (b : Nat) (h : chr s b = 37) : zcy s b = zdP s b := by
 have e : zap s b = if chr s (b + 1) = 101 then (29, [37, 101]) else if chr s (b + 1) = 102 then (30, [37, 102]) else (0, []) := by
  rw [zbj, h]; unfold sgC; rw [if_pos rfl]
 have ep : pfx s b [37, 117, 123] = (chr s (b + 1) == 117 && chr s (b + 2) == 123) := by
  show (chr s b == 37 && (chr s (b + 1) == 117 && (chr s (b + 1 + 1) == 123 && true))) = _
  rw [h, Bool.and_true]; rfl
 unfold zcy zdP
 rw [ep]
 by_cases hu : chr s (b + 1) = 117 /\ chr s (b + 2) = 123
 ·rw [if_pos hu, hu.1, hu.2, if_pos (by decide)]; exact znw s b
 ·have hu2 : ¬ (chr s (b + 1) == 117 && chr s (b + 2) == 123) = true := by simpa using hu
  rw [if_neg hu, if_neg hu2, e]
  by_cases h1 : chr s (b + 1) = 101
  ·rw [if_pos h1, if_pos h1, if_pos (by simp)]
   unfold zbr
   rw [e, if_pos h1]; rfl
  ·rw [if_neg h1, if_neg h1]
   by_cases h2 : chr s (b + 1) = 102
   ·rw [if_pos h2, if_pos h2, if_pos (by simp)]
    unfold zbr
    rw [e, if_neg h1, if_pos h2]; rfl
   ·rw [if_neg h2, if_neg h2, if_neg (by simp)]
    by_cases hs : b + 1 < s.size
    ·have hp : 0 <= chr s (b + 1) := by rw [zal hs]; omega
     by_cases hc : (cls (chr s (b + 1)).toNat).2 = 0
     ·rw [if_pos ⟨hs, hc⟩, if_pos ⟨hp, hc⟩]; rfl
     ·rw [if_neg (fun q => hc q.2), if_neg (fun q => hc q.2)]
    ·have hp : ¬ 0 <= chr s (b + 1) := by rw [zat hs]; omega
     rw [if_neg (fun q => hs q.1), if_neg (fun q => hp q.1)]
theorem zc9 (s : ByteArray) (b : Nat) : (lgG s b -> zaE s b = .inr (b + 2, 2) /\ zbD (sgR s) s b = .inl (nlT b (b + 2))) /\ (¬ lgG s b -> zaE s b = zbD (sgR s) s b) := by
 unfold zaE zbD
 by_cases h1 : hdB (chr s b) = true
 ·have hn : ¬ lgG s b := fun q => by rw [q.1] at h1; exact absurd h1 (by decide)
  refine ⟨fun q => absurd q hn, fun _ => ?_⟩
  rw [if_pos h1, if_pos h1]; rfl
 rw [if_neg h1, if_neg h1]
 by_cases h2 : dgB (chr s b) = true
 ·have hn : ¬ lgG s b := fun q => by rw [q.1] at h2; exact absurd h2 (by decide)
  refine ⟨fun q => absurd q hn, fun _ => ?_⟩
  rw [if_pos h2, if_pos h2]; rfl
 rw [if_neg h2, if_neg h2]
 by_cases h3 : chr s b = 39 ∨ chr s b = 34
 ·have hn : ¬ lgG s b := fun q => by have := q.1; omega
  refine ⟨fun q => absurd q hn, fun _ => ?_⟩
  rw [if_pos h3, if_pos h3]
 rw [if_neg h3, if_neg h3]
 by_cases h4 : chr s b = 91
 ·have hn : ¬ lgG s b := fun q => by have := q.1; omega
  refine ⟨fun q => absurd q hn, fun _ => ?_⟩
  rw [if_pos h4, if_pos h4]
 rw [if_neg h4, if_neg h4]
 by_cases h5 : chr s b = 37
 ·have hn : ¬ lgG s b := fun q => by have := q.1; omega
  refine ⟨fun q => absurd q hn, fun _ => ?_⟩
  rw [if_pos h5, if_pos h5]; exact znz s b h5
 rw [if_neg h5, if_neg h5]
 by_cases h6 : chr s b = 94
 ·have hn : ¬ lgG s b := fun q => by have := q.1; omega
  refine ⟨fun q => absurd q hn, fun _ => ?_⟩
  rw [if_pos h6]; exact znx s b h6
 rw [if_neg h6]
 by_cases h7 : chr s b = 123 /\ chr s (b + 1) = 58
 ·rw [if_pos h7]; exact zny s b h7.1 h7.2
 ·have hn : ¬ lgG s b := fun q => h7 ⟨q.1, q.2.1⟩
  refine ⟨fun q => absurd q hn, fun _ => ?_⟩
  rw [if_neg h7, sgR_C, sgRC_C _ _ h5 h6 h7]
  obtain ⟨k1, k2⟩ := zlQ (chr s b) (chr s (b + 1))
  unfold zbr
  rw [zbj]
  dsimp only
  rw [if_neg (fun q => h6 (k1 q)), if_neg (fun q => h7 (k2 q))]
theorem lg_in {s : ByteArray} {b : Nat} (h : lgG s b) : b + 2 < s.size := by
 have h3 := h.2.2.1
 by_cases q : b + 2 < s.size
 ·exact q
 ·rw [zat q] at h3; exact absurd h3 (by decide)
theorem zlR (s : ByteArray) (b : Nat) (t : Tk) (hb : b < s.size) (h : zbD (sgR s) s b = .inl t) : ∃ e : Nat, t.en = e /\ b < e /\ e <= s.size := by
 by_cases q : lgG s b
 ·have h1 := lg_in q
  rw [((zc9 s b).1 q).2] at h
  cases h
  exact ⟨b + 2, rfl, by omega, by omega⟩
 ·rw [<- (zc9 s b).2 q] at h
  exact zeR s b t hb h
theorem zqm (s : ByteArray) (b : Nat) (p : Nat × Int) (h : zbD (sgR s) s b = .inr p) : p.2 ≠ 0 := by
 by_cases q : lgG s b
 ·rw [((zc9 s b).1 q).2] at h; cases h
 ·rw [<- (zc9 s b).2 q] at h; exact zhp s b p h
theorem zjj (s : ByteArray) : ∀ (f : Nat) (out : List Tk) (i : Nat), s.size < f + i -> zbB (zaE s) s f out i = zbB (zbD (sgR s) s) s f out i := by
 intro f
 induction f with
 | zero => intro out i h; rfl
 | succ f ih =>
  intro out i h
  rw [zbB, zbB]
  by_cases hi : i < s.size
  ·rw [if_pos hi, if_pos hi]
   by_cases q : lgG s i
   ·have h1 := lg_in q
    obtain ⟨e1, e2⟩ := (zc9 s i).1 q
    rw [e1, e2]
    dsimp only
    have hd := q.2.2.1
    have hg : zbm s (i + 2) = i + 2 := by
     rw [zcd, if_pos h1]
     have hr : 65 <= chr s (i + 2) := by
      unfold hdB at hd
      simp at hd
      omega
     rw [if_neg (by omega), if_neg (by omega)]
    obtain ⟨f, rfl⟩ : ∃ g, f = g + 1 := ⟨f - 1, by omega⟩
    show _ = zbB (zbD (sgR s) s) s (f + 1) (out ++ [nlT i (i + 2)]) (zbm s (i + 2))
    rw [hg, zbB, if_pos h1]
    have ho : zbD (sgR s) s (i + 2) = .inr (i + 2, 2) := by
     unfold zbD
     rw [if_pos hd, if_pos (by have := q.2.2.2.1; omega)]
    rw [ho]
   ·rw [(zc9 s i).2 q]
    cases ho : zbD (sgR s) s i with
    | inr p => rfl
    | inl t =>
     obtain ⟨e, e1, e2, e3⟩ := zlR s i t hi ho
     have hge := zga s e e3
     dsimp only
     exact ih _ _ (by rw [e1, Int.toNat_natCast]; omega)
  ·rw [if_neg hi, if_neg hi]
theorem znA (s : ByteArray) : zbn (zaE s) s = zbn (zbD (sgR s) s) s := by
 unfold zbn
 split
 ·rfl
 ·exact zjj s _ _ _ (by omega)
theorem zes (s : ByteArray) (hs : s.size <= 140737488355000) (w : World) : Calls Tryz.prog 17 #[.string s] w fun e w' => LxV w w' (zbn (zaE s) s) e /\ Below w.heap.size w w' := by
 rw [znA]
 exact lex_of (zbD (sgR s) s) s hs (fun b hb _ w => one_of (sgR s) s b hs hb (fun w => znv s b hs hb w) w) (fun b t hb h => zlR s b t hb h) (fun b q h => zqm s b q h) w
theorem zjk {w : World} {base : Nat} {v : Value} {l : List UInt8} (h : w.ownsRow base 5 1 v l.length (Lib.byteCells l)) : (convert 84 9 v).run Tryz.prog w = .ok (.string (txO l)) w := by
 have e : Lib.byteCells l = (l.map fun x => (x.toNat : Int)).map (Value.int .u8) := by unfold Lib.byteCells; rw [List.map_map]; rfl
 have h2 := zc4 (l := l.map fun x => (x.toNat : Int)) (by rw [List.length_map, <- e]; exact h)
 rw [zpO] at h2
 exact h2
structure DjT (w wr : World) (v : Value) (l : List UInt8) : Prop where
 o : wr.ownsRow w.heap.size 5 1 v l.length (Lib.byteCells l)
 b : Below w.heap.size w wr
theorem DjT.below {w wr w' : World} {v : Value} {l : List UInt8} (h : DjT w wr v l) (hb : Below wr.heap.size wr w') : DjT w w' v l := ⟨zbH h.o hb, h.b.trans (hb.mono h.b.size)⟩
theorem zeZ (A : Option Addr) (c : Nat) (L : List Tk) (w : World) (hr : RdO w A L) (hl : L.length <= 140737488355328) (hb : ∀ t ∈ L, TkB t) : Calls Tryz.prog 18 #[.slice A L.length c] w fun e w' => e = .returned (.tuple #[.string (txR L).1, .int .i64 (txR L).2]) /\ Below w.heap.size w w' := by
 have HK : Hid (Calls Tryz.prog 37 #[.slice A L.length c] w fun e w' => e = .returned (.tuple #[.int .i64 ((ckR L).1 : Int), .int .i64 (ckR L).2]) /\ Below w.heap.size w w') := zi5 A c L w hr hl hb
 obtain ⟨i0, hinf, hz0, hz1, hz2⟩ := info_parts Tryz.info5
 by_cases hc : (ckR L).2 = 0
 ·obtain ⟨hl2, hall⟩ := zpT hc
  have HC0 := hO hc
  have HR := hO hr
  have HG : Hid (∀ k, k < L.length -> ∃ t, L[k]? = some t /\ riF t = true /\ TkB t /\ L ≠ []) := fun k hk => ⟨L[k], List.getElem?_eq_getElem hk, hall _ (List.getElem_mem hk), hb _ (List.getElem_mem hk), by rintro rfl; simp at hk⟩
  rw [hc] at HK
  clear hc hr hb hl hall
  generalize (ckR L).1 = ci at HK
  go_enter Tryz.func18, Tryz.ntmps18
  go_wp2_with fail
  refine (show Calls _ _ _ _ _ from HK).mono ?_
  rintro e w1 ⟨rfl, hb1⟩
  have H0 : Hid (DjT w w1 (.slice none 0 0) (jT L 0)) := ⟨World.ownsRow_nil _ _ _ _, hb1⟩
  clear hb1 HK
  go_wp2_with fail
  go_loopw [6, 7] (fun v t wr => ∃ k : Nat, k <= L.length /\ t = .int .i64 k /\ Hid (DjT w wr v (jT L k)) /\ (jT L k).length <= 65536) (fun _ t _ => L.length - (intOf t).toNat)
  case atStart => exact ⟨0, by omega, by go_num, H0, by show 0 <= _; omega⟩
  case round =>
   obtain ⟨k, hk, rfl, HP, hq⟩ := hrel
   clear H0
   obtain ⟨ao, cap, hv⟩ := zc0 HP.out.o
   subst hv
   by_cases hlt : k < L.length
   ·obtain ⟨t, ht, hri, hb, hne⟩ := HG.out k hlt
    obtain ⟨g, o, rfl, lt, n1⟩ := HR.out.rd hne
    have key : ∀ W, Below w.heap.size w W -> ∀ j, W.cell? ⟨g, j, none⟩ = w.cell? ⟨g, j, none⟩ := fun W hW j => hW.cell (p := ⟨g, j, none⟩) lt
    have HTR := hO (n1 k _ ht)
    have z0 : (0 : Int) <= (k : Int) := by omega
    have z1 : (k : Int) < (L.length : Int) := by omega
    have HJ := hO (zhB ht)
    have hxl := zpR hri hb
    have HY : Hid (∀ W, Calls Tryz.prog 38 #[tkG t] W fun e w' => e = .returned (.string (tkX t)) /\ Below W.heap.size W w') := fun W => znc t hri hb W
    have HKY := hO key
    obtain ⟨kd, nn, fr, en, tx, s0, s1, s2, s3⟩ := t
    dsimp only [tkG] at HY
    clear ht hri hb hne n1 key HG HR
    generalize tkX ⟨kd, nn, fr, en, tx, s0, s1, s2, s3⟩ = X at *
    by_cases hk0 : k = 0
    ·have t0 : ¬ (0 : Int) < (k : Int) := by omega
     rw [if_pos hk0, List.append_nil] at HJ
     have HP1 := HP
     obtain ⟨a0, a1, a2, a3, a4, a5, a6, a7, a8⟩ := HTR.out
     rw [<- HKY.out _ HP1.out.b] at a0 a1 a2 a3 a4 a5 a6 a7 a8
     dsimp only at a0 a1 a2 a3 a4 a5 a6 a7 a8
     clear hk0 HP HTR HKY
     go_wp2_with fail
     refine (HY.out _).mono ?_
     rintro e w4 ⟨rfl, hb4⟩
     have HP4 := hO (HP1.out.below hb4)
     clear hb4 HP1 HY
     go_wp2_with (at_builtin; refine Lib.wpList_append_own_string _ rfl _ _ 84 9 rfl w.heap.size 5 i0 Tryz.underlying84 Tryz.underlying9 hinf hz0 hz1 hz2 _ _ _ rfl HP4.out.o X rfl ?d3 ?d4 ?d5 ?_)
     case d3 => unfold maxLen; omega
     case d4 => omega
     case d5 => exact HP4.out.b.size
     intro v5 w5 hown5 hgrow5 _
     have HP5 := (show Hid (DjT w w5 v5 (jT L (k + 1))) from ⟨by
      rw [HJ.out, List.length_append, zlt]
      exact hown5, HP4.out.b.grown hgrow5 HP4.out.b.size (fun j e => (HP4.out.o.lt j e).1)⟩)
     clear hown5 hgrow5 HP4
     obtain ⟨ao5, cap5, hv5⟩ := zc0 HP5.out.o
     subst hv5
     by_cases hbig : 65536 < (jT L (k + 1)).length
     ·have v6 : (65536 : Int) < ((jT L (k + 1)).length : Int) := by omega
      have HF : Hid (txR L = (⟨#[]⟩, 2)) := zgd HC0.out (by omega) hbig
      have HB := hO HP5.out.b
      clear hbig HP5
      go_wp2_with fail
      go_ret2
      exact ⟨zin HF.out, HB.out⟩
     ·have v6 : ¬ (65536 : Int) < ((jT L (k + 1)).length : Int) := by omega
      have hq6 : (jT L (k + 1)).length <= 65536 := by omega
      clear hbig
      go_wp2_with fail
      go_roundw
      case rel => exact ⟨k + 1, by omega, by go_num, HP5, hq6⟩
      case measure => simp [intOf]; omega
    ·have t0 : (0 : Int) < (k : Int) := by omega
     rw [if_neg hk0] at HJ
     clear hk0
     go_wp2_with (at_builtin; refine wpList_append_own _ rfl _ _ 84 rfl w.heap.size 5 i0 (.int .u8 0) 1 1 Tryz.underlying84 hinf hz0 hz1 hz2 rfl (by decide) _ _ _ rfl (HP.out.o.alloc _) ⟨wr.heap.size, 0, none⟩ 1 1 [.int .u8 32] rfl rfl ?c1 ?c2 ?c3 ?c4 ?c5 ?_)
     case c1 => exact (Q.zhx [32] (by simp) wr).cells rfl
     case c2 => first | rfl | (intro u hu; simp at hu; subst hu; rfl)
     case c3 => unfold maxLen; omega
     case c4 => omega
     case c5 => have := HP.out.b.size; simp; omega
     intro v2 w2 hown2 hgrow2 _
     have HP1 := (show Hid (DjT w w2 v2 (jT L k ++ [32])) from ⟨by
      rw [List.length_append, zlt]
      exact hown2, (HP.out.b.alloc HP.out.b.size (.cells #[.int .u8 32] 5)).grown hgrow2 (by have := HP.out.b.size; simp; omega) (fun j e => (HP.out.o.lt j e).1)⟩)
     obtain ⟨a0, a1, a2, a3, a4, a5, a6, a7, a8⟩ := HTR.out
     rw [<- HKY.out _ HP1.out.b] at a0 a1 a2 a3 a4 a5 a6 a7 a8
     dsimp only at a0 a1 a2 a3 a4 a5 a6 a7 a8
     have hq32 : (jT L k ++ [32]).length <= 65537 := by rw [List.length_append]; show _ + 1 <= _; omega
     clear hown2 hgrow2 HP HTR HKY
     generalize jT L k ++ [32] = M at *
     obtain ⟨ao2, cap2, hv2⟩ := zc0 HP1.out.o
     subst hv2
     go_wp2_with fail
     refine (HY.out _).mono ?_
     rintro e w4 ⟨rfl, hb4⟩
     have HP4 := hO (HP1.out.below hb4)
     clear hb4 HP1 HY
     go_wp2_with (at_builtin; refine Lib.wpList_append_own_string _ rfl _ _ 84 9 rfl w.heap.size 5 i0 Tryz.underlying84 Tryz.underlying9 hinf hz0 hz1 hz2 _ _ _ rfl HP4.out.o X rfl ?f3 ?f4 ?f5 ?_)
     case f3 => unfold maxLen; omega
     case f4 => omega
     case f5 => exact HP4.out.b.size
     intro v5 w5 hown5 hgrow5 _
     have HP5 := (show Hid (DjT w w5 v5 (jT L (k + 1))) from ⟨by
      rw [HJ.out, List.length_append, zlt]
      exact hown5, HP4.out.b.grown hgrow5 HP4.out.b.size (fun j e => (HP4.out.o.lt j e).1)⟩)
     clear hown5 hgrow5 HP4
     obtain ⟨ao5, cap5, hv5⟩ := zc0 HP5.out.o
     subst hv5
     by_cases hbig : 65536 < (jT L (k + 1)).length
     ·have v6 : (65536 : Int) < ((jT L (k + 1)).length : Int) := by omega
      have HF : Hid (txR L = (⟨#[]⟩, 2)) := zgd HC0.out (by omega) hbig
      have HB := hO HP5.out.b
      clear hbig HP5
      go_wp2_with fail
      go_ret2
      exact ⟨zin HF.out, HB.out⟩
     ·have v6 : ¬ (65536 : Int) < ((jT L (k + 1)).length : Int) := by omega
      have hq6 : (jT L (k + 1)).length <= 65536 := by omega
      clear hbig
      go_wp2_with fail
      go_roundw
      case rel => exact ⟨k + 1, by omega, by go_num, HP5, hq6⟩
      case measure => simp [intOf]; omega
   ·obtain rfl : k = L.length := by omega
    have HF : Hid (txR L = (txO (jT L L.length), 0)) := znU HC0.out (by omega)
    have hct := zjk HP.out.o
    have HB := hO HP.out.b
    clear HG HR HC0 HP
    go_wp2_with fail
    go_ret2
    exact ⟨zin HF.out, HB.out⟩
 ·have HE := hO (zls hc)
  have v : ((ckR L).2 != 0) = true := by rw [bne, bF hc]; rfl
  clear hr hb hl hc
  generalize (ckR L).2 = q at *
  generalize (ckR L).1 = ci at *
  go_enter Tryz.func18, Tryz.ntmps18
  go_wp2_with fail
  refine (show Calls _ _ _ _ _ from HK).mono ?_
  rintro e w1 ⟨rfl, hb1⟩
  have HB := hO hb1
  clear hb1 HK
  go_wp2_with fail
  go_ret2
  exact ⟨zin HE.out, HB.out⟩
end Go.Proofs.YtkihfkcmcdiajaaGreatDoor
namespace Go.Proofs.YtkihfkcmcdiajaaGreatDoor.N
open Go.RowKit
def PgV (w' : World) (r : Sum (List (ByteArray × List Nd)) (Int × Int)) (e : Ending) : Prop := match r with
 | .inr p => e = .returned (.tuple #[.agg #[.slice none 0 0], .agg #[.int .i64 p.1, .int .i64 p.2]])
 | .inl gs => ∃ u, e = .returned (.tuple #[.agg #[u], .agg #[.int .i64 0, .int .i64 0]]) /\ GrR w' u gs
theorem ze0 (s : ByteArray) (w : World) (hg : GW w) (r : Sum (List (ByteArray × List Nd)) (Int × Int)) (hr : psR s = r) : Calls Tryz.prog 9 #[.string s] w fun e w' => PgV w' r e /\ Below w.heap.size w w' := by
 refine (zlN s w hg).mono ?_
 rintro e w' ⟨h1, h2⟩
 refine ⟨?_, h2⟩
 rw [hr] at h1
 cases r with
 | inr p => exact h1
 | inl gs =>
  obtain ⟨u, ov, h3, h4, h5, h6⟩ := h1
  refine ⟨u, h3, ?_⟩
  rw [<- h6]
  exact GrR.of h4 h5
theorem zlS (s : ByteArray) (hs2 : s.size <= 140737488355000) (w : World) (hg : GW w) (q : Nat × Int) (hq : zbn (zaE s) s = .inr q) : Calls Tryz.prog 7 #[.string s] w fun e w' => e = .returned (.bool true) /\ Below w.heap.size w w' := by
 have HX : Hid (∀ _ : Unit, Calls Tryz.prog 17 #[.string s] w fun e w' => e = .returned (.tuple #[.slice none 0 0, .int .i64 q.1, .int .i64 q.2]) /\ Below w.heap.size w w') := fun _ => by
  have := zes s hs2 w
  rw [hq] at this
  exact this
 have HP : Hid (∀ W, GW W -> Calls Tryz.prog 9 #[.string s] W fun e w' => e = .returned (.tuple #[.agg #[.slice none 0 0], .agg #[.int .i64 q.1, .int .i64 q.2]]) /\ Below W.heap.size W w') := fun W hW => ze0 s W hW (.inr (q.1, q.2)) (by unfold psR; rw [hq])
 have HL : Hid (∀ W, GW W -> Calls Tryz.prog 11 #[] W fun e w' => e = .returned (.bool true) /\ Below W.heap.size W w') := fun W h => zdM W h
 have HG : Hid (GW w) := hg
 have t1 : (q.2 != 0) = true := by simpa using (zhC hq).2
 obtain ⟨q1, q2⟩ := q
 simp only at t1 HX HP
 clear hg hq hs2
 go_enter Tryz.func7, Tryz.ntmps7
 go_wp2_with fail
 refine (HX.out ()).mono ?_
 rintro e w1 ⟨rfl, hb⟩
 have HB : Hid (Below w.heap.size w w1) := hb
 clear hb HX
 go_wp2_with fail
 refine (HP.out _ (HG.out.later HB.out)).mono ?_
 rintro e w2 ⟨rfl, hb⟩
 have HB2 := (show Hid (Below w.heap.size w ((w2.alloc (.cells #[.slice none 0 0] 24)).alloc (.cells #[.int .i64 q1, .int .i64 q2] 27)) /\ FX ((w2.alloc (.cells #[.slice none 0 0] 24)).alloc (.cells #[.int .i64 q1, .int .i64 q2] 27)) (w2.heap.size + 1) q1 q2) from by
  have h0 : Below w.heap.size w w2 := HB.out.trans (hb.mono HB.out.size)
  exact ⟨(h0.alloc h0.size _).alloc (by rw [World.size_alloc]; have := h0.size; omega) _, ⟨by have h := heap_alloc_new (w2.alloc (.cells #[.slice none 0 0] 24)) (.cells #[.int .i64 q1, .int .i64 q2] 27); rw [World.size_alloc] at h; exact h⟩⟩)
 clear hb HB HP
 go_wp2_with fail
 generalize (w2.alloc (.cells #[.slice none 0 0] 24)).alloc (.cells #[.int .i64 q1, .int .i64 q2] 27) = w3 at *
 refine (HL.out _ (HG.out.later HB2.out.1)).mono ?_
 rintro e w4 ⟨rfl, hb⟩
 have HB4 : Hid (Below w.heap.size w w4 /\ FX w4 (w2.heap.size + 1) q1 q2) := ⟨HB2.out.1.trans (hb.mono HB2.out.1.size), HB2.out.2.below hb⟩
 have c1 := HB4.out.2.c1
 clear hb HB2 HL
 go_wp2_with fail
 go_ret
 exact ⟨rfl, HB4.out.1⟩
theorem zjl (s : ByteArray) (hs2 : s.size <= 140737488355000) (w : World) (hg : GW w) (l : List Tk) (hl : zbn (zaE s) s = .inl l) (h : ¬ (txR l).2 = 0) : Calls Tryz.prog 7 #[.string s] w fun e w' => e = .returned (.bool true) /\ Below w.heap.size w w' := by
 have HX : Hid (∀ _ : Unit, Calls Tryz.prog 17 #[.string s] w fun e w' => (∃ A c, e = .returned (.tuple #[.slice A l.length c, .int .i64 0, .int .i64 0]) /\ RdO w' A l) /\ Below w.heap.size w w') := fun _ => by
  refine (zes s hs2 w).mono ?_
  rintro e w' ⟨h1, h2⟩
  rw [hl] at h1
  obtain ⟨v, h3, h4⟩ := h1
  obtain ⟨A, c, rfl, h5⟩ := zfK h4 rfl
  exact ⟨⟨A, c, h3, h5.o⟩, h2⟩
 have HT : Hid (∀ W A c, RdO W A l -> Calls Tryz.prog 18 #[.slice A l.length c] W fun e w' => e = .returned (.tuple #[.string (txR l).1, .int .i64 (txR l).2]) /\ Below W.heap.size W w') := fun W A c h => zeZ A c l W h (by have := zeY hl; omega) (fun t ht => (zdr hl t ht).b)
 have HL : Hid (∀ W, GW W -> Calls Tryz.prog 11 #[] W fun e w' => e = .returned (.bool true) /\ Below W.heap.size W w') := fun W h => zdM W h
 have HG : Hid (GW w) := hg
 have t1 : ((txR l).2 != 0) = true := by simpa using h
 clear hg hl hs2 h
 go_enter Tryz.func7, Tryz.ntmps7
 go_wp2_with fail
 refine (HX.out ()).mono ?_
 rintro e w1 ⟨⟨A, c, rfl, hr⟩, hb⟩
 have HB : Hid (Below w.heap.size w w1 /\ RdO w1 A l) := ⟨hb, hr⟩
 clear hb HX hr
 go_wp2_with fail
 refine (HT.out _ _ _ HB.out.2).mono ?_
 rintro e w2 ⟨rfl, hb⟩
 have HB2 : Hid (Below w.heap.size w w2) := HB.out.1.trans (hb.mono HB.out.1.size)
 clear hb HB HT
 generalize (txR l).1 = tx at *
 generalize (txR l).2 = tc at *
 go_wp2_with fail
 refine (HL.out _ (HG.out.later HB2.out)).mono ?_
 rintro e w3 ⟨rfl, hb⟩
 have HB3 : Hid (Below w.heap.size w w3) := HB2.out.trans (hb.mono HB2.out.size)
 clear hb HB2 HL
 go_wp2_with fail
 go_ret
 exact ⟨rfl, HB3.out⟩
theorem zlT (s : ByteArray) (hs2 : s.size <= 140737488355000) (w : World) (hg : GW w) (l : List Tk) (hl : zbn (zaE s) s = .inl l) (h : (txR l).2 = 0) (gs : List (ByteArray × List Nd)) (h1 : psR s = .inl gs) (h2 : psR (txR l).1 = .inl gs) : Calls Tryz.prog 7 #[.string s] w fun e w' => e = .returned (.bool true) /\ Below w.heap.size w w' := by
 have HX : Hid (∀ _ : Unit, Calls Tryz.prog 17 #[.string s] w fun e w' => (∃ A c, e = .returned (.tuple #[.slice A l.length c, .int .i64 0, .int .i64 0]) /\ RdO w' A l) /\ Below w.heap.size w w') := fun _ => by
  refine (zes s hs2 w).mono ?_
  rintro e w' ⟨h1, h2⟩
  rw [hl] at h1
  obtain ⟨v, h3, h4⟩ := h1
  obtain ⟨A, c, rfl, h5⟩ := zfK h4 rfl
  exact ⟨⟨A, c, h3, h5.o⟩, h2⟩
 have HT : Hid (∀ W A c, RdO W A l -> Calls Tryz.prog 18 #[.slice A l.length c] W fun e w' => e = .returned (.tuple #[.string (txR l).1, .int .i64 (txR l).2]) /\ Below W.heap.size W w') := fun W A c h => zeZ A c l W h (by have := zeY hl; omega) (fun t ht => (zdr hl t ht).b)
 have HL : Hid (∀ W, GW W -> Calls Tryz.prog 11 #[] W fun e w' => e = .returned (.bool true) /\ Below W.heap.size W w') := fun W h => zdM W h
 have HG : Hid (GW w) := hg
 have t1 : ((txR l).2 != 0) = false := by rw [h]; rfl
 have HP : Hid (∀ W, GW W -> Calls Tryz.prog 9 #[.string s] W fun e w' => (∃ u, e = .returned (.tuple #[.agg #[u], .agg #[.int .i64 0, .int .i64 0]]) /\ GrR w' u gs) /\ Below W.heap.size W w') := fun W hW => ze0 s W hW _ h1
 have HQ : Hid (∀ W, GW W -> Calls Tryz.prog 9 #[.string (txR l).1] W fun e w' => (∃ u, e = .returned (.tuple #[.agg #[u], .agg #[.int .i64 0, .int .i64 0]]) /\ GrR w' u gs) /\ Below W.heap.size W w') := fun W hW => ze0 _ W hW _ h2
 have HS : Hid (∀ W u1 u2, GrR W u1 gs -> GrR W u2 gs -> Calls Tryz.prog 12 #[.agg #[u1], .agg #[u2]] W fun e w' => e = .returned (.bool true) /\ Below W.heap.size W w') := fun W u1 u2 h3 h4 => zgM (fun g hg => ((zn6 h1).2.2.1 g hg).2.1) (zn6 h1).2.1 h3 h4
 clear hg hl hs2 h h1 h2
 go_enter Tryz.func7, Tryz.ntmps7
 go_wp2_with fail
 refine (HX.out ()).mono ?_
 rintro e w1 ⟨⟨A, c, rfl, hr⟩, hb⟩
 have HB : Hid (Below w.heap.size w w1 /\ RdO w1 A l) := ⟨hb, hr⟩
 clear hb HX hr
 go_wp2_with fail
 refine (HT.out _ _ _ HB.out.2).mono ?_
 rintro e w2 ⟨rfl, hb⟩
 have HB2 : Hid (Below w.heap.size w w2) := HB.out.1.trans (hb.mono HB.out.1.size)
 clear hb HB HT
 generalize (txR l).1 = tx at *
 generalize (txR l).2 = tc at *
 go_wp2_with fail
 refine (HP.out _ (HG.out.later HB2.out)).mono ?_
 rintro e w3 ⟨⟨u3, rfl, hr⟩, hb⟩
 obtain ⟨A3, c3, eu3, _⟩ := id hr
 subst eu3
 have HB3 := (show Hid (Below w.heap.size w ((w3.alloc (.cells #[(.slice A3 gs.length c3)] 24)).alloc fxZ) /\ GX ((w3.alloc (.cells #[(.slice A3 gs.length c3)] 24)).alloc fxZ) w3.heap.size (.slice A3 gs.length c3) /\ FX ((w3.alloc (.cells #[(.slice A3 gs.length c3)] 24)).alloc fxZ) (w3.heap.size + 1) 0 0 /\ GrR ((w3.alloc (.cells #[(.slice A3 gs.length c3)] 24)).alloc fxZ) (.slice A3 gs.length c3) gs) from by
  have h0 : Below w.heap.size w w3 := HB2.out.trans (hb.mono HB2.out.size)
  exact ⟨(h0.alloc h0.size _).alloc (by rw [World.size_alloc]; have := h0.size; omega) _, (GX.mk (heap_alloc_new w3 _)).below (zaa _ _), ⟨by have h := heap_alloc_new (w3.alloc (.cells #[(.slice A3 gs.length c3)] 24)) fxZ; rw [World.size_alloc] at h; exact h⟩, (hr.later (zaa _ _)).later (zaa _ _)⟩)
 clear hb HP hr HB2
 go_wp2_with fail
 generalize ((w3.alloc (.cells #[(.slice A3 gs.length c3)] 24)).alloc fxZ) = w4 at *
 generalize w3.heap.size = k3 at *
 refine (HQ.out _ (HG.out.later HB3.out.1)).mono ?_
 rintro e w5 ⟨⟨u5, rfl, hr⟩, hb⟩
 obtain ⟨A5, c5, eu5, _⟩ := id hr
 subst eu5
 have HB5 := (show Hid (Below w.heap.size w ((w5.alloc (.cells #[(.slice A5 gs.length c5)] 24)).alloc fxZ) /\ GX ((w5.alloc (.cells #[(.slice A5 gs.length c5)] 24)).alloc fxZ) k3 (.slice A3 gs.length c3) /\ FX ((w5.alloc (.cells #[(.slice A5 gs.length c5)] 24)).alloc fxZ) (k3 + 1) 0 0 /\ GrR ((w5.alloc (.cells #[(.slice A5 gs.length c5)] 24)).alloc fxZ) (.slice A3 gs.length c3) gs /\ GX ((w5.alloc (.cells #[(.slice A5 gs.length c5)] 24)).alloc fxZ) w5.heap.size (.slice A5 gs.length c5) /\ FX ((w5.alloc (.cells #[(.slice A5 gs.length c5)] 24)).alloc fxZ) (w5.heap.size + 1) 0 0 /\ GrR ((w5.alloc (.cells #[(.slice A5 gs.length c5)] 24)).alloc fxZ) (.slice A5 gs.length c5) gs) from by
  have h0 : Below w.heap.size w w5 := HB3.out.1.trans (hb.mono HB3.out.1.size)
  have b1 : Below w4.heap.size w4 ((w5.alloc (.cells #[(.slice A5 gs.length c5)] 24)).alloc fxZ) := (hb.alloc hb.size _).alloc (by rw [World.size_alloc]; have := hb.size; omega) _
  exact ⟨(h0.alloc h0.size _).alloc (by rw [World.size_alloc]; have := h0.size; omega) _, HB3.out.2.1.below b1, HB3.out.2.2.1.below b1, HB3.out.2.2.2.later b1, (GX.mk (heap_alloc_new w5 _)).below (zaa _ _), ⟨by have h := heap_alloc_new (w5.alloc (.cells #[(.slice A5 gs.length c5)] 24)) fxZ; rw [World.size_alloc] at h; exact h⟩, (hr.later (zaa _ _)).later (zaa _ _)⟩)
 clear hb HQ hr HB3
 go_wp2_with fail
 generalize ((w5.alloc (.cells #[(.slice A5 gs.length c5)] 24)).alloc fxZ) = w6 at *
 generalize w5.heap.size = k5 at *
 refine (HL.out _ (HG.out.later HB5.out.1)).mono ?_
 rintro e w7 ⟨rfl, hb⟩
 have HB7 : Hid (Below w.heap.size w w7 /\ GX w7 k3 (.slice A3 gs.length c3) /\ FX w7 (k3 + 1) 0 0 /\ GrR w7 (.slice A3 gs.length c3) gs /\ GX w7 k5 (.slice A5 gs.length c5) /\ FX w7 (k5 + 1) 0 0 /\ GrR w7 (.slice A5 gs.length c5) gs) := ⟨HB5.out.1.trans (hb.mono HB5.out.1.size), HB5.out.2.1.below hb, HB5.out.2.2.1.below hb, HB5.out.2.2.2.1.later hb, HB5.out.2.2.2.2.1.below hb, HB5.out.2.2.2.2.2.1.below hb, HB5.out.2.2.2.2.2.2.later hb⟩
 clear hb HB5 HL
 have g1 := HB7.out.2.1.cl
 have g2 := HB7.out.2.2.2.2.1.cl
 have c1 := HB7.out.2.2.1.c1
 have c2 := HB7.out.2.2.2.2.2.1.c1
 go_wp2_with fail
 refine (HS.out _ _ _ HB7.out.2.2.2.1 HB7.out.2.2.2.2.2.2).mono ?_
 rintro e w8 ⟨rfl, hb⟩
 have HB8 : Hid (Below w.heap.size w w8) := HB7.out.1.trans (hb.mono HB7.out.1.size)
 clear hb HB7 HS g1 g2 c1 c2
 go_wp2_with fail
 go_ret
 exact ⟨rfl, HB8.out⟩
theorem zjm (s : ByteArray) (hs2 : s.size <= 140737488355000) (w : World) (hg : GW w) (l : List Tk) (hl : zbn (zaE s) s = .inl l) (h : (txR l).2 = 0) (p p' c0 : Int) (h1 : psR s = .inr (p, c0)) (h2 : psR (txR l).1 = .inr (p', c0)) : Calls Tryz.prog 7 #[.string s] w fun e w' => e = .returned (.bool true) /\ Below w.heap.size w w' := by
 have HX : Hid (∀ _ : Unit, Calls Tryz.prog 17 #[.string s] w fun e w' => (∃ A c, e = .returned (.tuple #[.slice A l.length c, .int .i64 0, .int .i64 0]) /\ RdO w' A l) /\ Below w.heap.size w w') := fun _ => by
  refine (zes s hs2 w).mono ?_
  rintro e w' ⟨h1, h2⟩
  rw [hl] at h1
  obtain ⟨v, h3, h4⟩ := h1
  obtain ⟨A, c, rfl, h5⟩ := zfK h4 rfl
  exact ⟨⟨A, c, h3, h5.o⟩, h2⟩
 have HT : Hid (∀ W A c, RdO W A l -> Calls Tryz.prog 18 #[.slice A l.length c] W fun e w' => e = .returned (.tuple #[.string (txR l).1, .int .i64 (txR l).2]) /\ Below W.heap.size W w') := fun W A c h => zeZ A c l W h (by have := zeY hl; omega) (fun t ht => (zdr hl t ht).b)
 have HL : Hid (∀ W, GW W -> Calls Tryz.prog 11 #[] W fun e w' => e = .returned (.bool true) /\ Below W.heap.size W w') := fun W h => zdM W h
 have HG : Hid (GW w) := hg
 have t1 : ((txR l).2 != 0) = false := by rw [h]; rfl
 have HP : Hid (∀ W, GW W -> Calls Tryz.prog 9 #[.string s] W fun e w' => e = .returned (.tuple #[.agg #[.slice none 0 0], .agg #[.int .i64 p, .int .i64 c0]]) /\ Below W.heap.size W w') := fun W hW => ze0 s W hW _ h1
 have HQ : Hid (∀ W, GW W -> Calls Tryz.prog 9 #[.string (txR l).1] W fun e w' => e = .returned (.tuple #[.agg #[.slice none 0 0], .agg #[.int .i64 p', .int .i64 c0]]) /\ Below W.heap.size W w') := fun W hW => ze0 _ W hW _ h2
 have HS : Hid (∀ W u1 u2, GrR W u1 [] -> GrR W u2 [] -> Calls Tryz.prog 12 #[.agg #[u1], .agg #[u2]] W fun e w' => e = .returned (.bool true) /\ Below W.heap.size W w') := fun W u1 u2 h3 h4 => zgM (fun g hg => by cases hg) (Nat.zero_le _) h3 h4
 clear hg hl hs2 h h1 h2
 go_enter Tryz.func7, Tryz.ntmps7
 go_wp2_with fail
 refine (HX.out ()).mono ?_
 rintro e w1 ⟨⟨A, c, rfl, hr⟩, hb⟩
 have HB : Hid (Below w.heap.size w w1 /\ RdO w1 A l) := ⟨hb, hr⟩
 clear hb HX hr
 go_wp2_with fail
 refine (HT.out _ _ _ HB.out.2).mono ?_
 rintro e w2 ⟨rfl, hb⟩
 have HB2 : Hid (Below w.heap.size w w2) := HB.out.1.trans (hb.mono HB.out.1.size)
 clear hb HB HT
 generalize (txR l).1 = tx at *
 generalize (txR l).2 = tc at *
 go_wp2_with fail
 refine (HP.out _ (HG.out.later HB2.out)).mono ?_
 rintro e w3 ⟨rfl, hb⟩
 have hr := GrR.nil w3
 have HB3 := (show Hid (Below w.heap.size w ((w3.alloc (.cells #[(.slice none 0 0)] 24)).alloc (.cells #[.int .i64 p, .int .i64 c0] 27)) /\ GX ((w3.alloc (.cells #[(.slice none 0 0)] 24)).alloc (.cells #[.int .i64 p, .int .i64 c0] 27)) w3.heap.size (.slice none 0 0) /\ FX ((w3.alloc (.cells #[(.slice none 0 0)] 24)).alloc (.cells #[.int .i64 p, .int .i64 c0] 27)) (w3.heap.size + 1) p c0 /\ GrR ((w3.alloc (.cells #[(.slice none 0 0)] 24)).alloc (.cells #[.int .i64 p, .int .i64 c0] 27)) (.slice none 0 0) []) from by
  have h0 : Below w.heap.size w w3 := HB2.out.trans (hb.mono HB2.out.size)
  exact ⟨(h0.alloc h0.size _).alloc (by rw [World.size_alloc]; have := h0.size; omega) _, (GX.mk (heap_alloc_new w3 _)).below (zaa _ _), ⟨by have h := heap_alloc_new (w3.alloc (.cells #[(.slice none 0 0)] 24)) (.cells #[.int .i64 p, .int .i64 c0] 27); rw [World.size_alloc] at h; exact h⟩, (hr.later (zaa _ _)).later (zaa _ _)⟩)
 clear hb HP hr HB2
 go_wp2_with fail
 generalize ((w3.alloc (.cells #[(.slice none 0 0)] 24)).alloc (.cells #[.int .i64 p, .int .i64 c0] 27)) = w4 at *
 generalize w3.heap.size = k3 at *
 refine (HQ.out _ (HG.out.later HB3.out.1)).mono ?_
 rintro e w5 ⟨rfl, hb⟩
 have hr := GrR.nil w5
 have HB5 := (show Hid (Below w.heap.size w ((w5.alloc (.cells #[(.slice none 0 0)] 24)).alloc (.cells #[.int .i64 p', .int .i64 c0] 27)) /\ GX ((w5.alloc (.cells #[(.slice none 0 0)] 24)).alloc (.cells #[.int .i64 p', .int .i64 c0] 27)) k3 (.slice none 0 0) /\ FX ((w5.alloc (.cells #[(.slice none 0 0)] 24)).alloc (.cells #[.int .i64 p', .int .i64 c0] 27)) (k3 + 1) p c0 /\ GrR ((w5.alloc (.cells #[(.slice none 0 0)] 24)).alloc (.cells #[.int .i64 p', .int .i64 c0] 27)) (.slice none 0 0) [] /\ GX ((w5.alloc (.cells #[(.slice none 0 0)] 24)).alloc (.cells #[.int .i64 p', .int .i64 c0] 27)) w5.heap.size (.slice none 0 0) /\ FX ((w5.alloc (.cells #[(.slice none 0 0)] 24)).alloc (.cells #[.int .i64 p', .int .i64 c0] 27)) (w5.heap.size + 1) p' c0 /\ GrR ((w5.alloc (.cells #[(.slice none 0 0)] 24)).alloc (.cells #[.int .i64 p', .int .i64 c0] 27)) (.slice none 0 0) []) from by
  have h0 : Below w.heap.size w w5 := HB3.out.1.trans (hb.mono HB3.out.1.size)
  have b1 : Below w4.heap.size w4 ((w5.alloc (.cells #[(.slice none 0 0)] 24)).alloc (.cells #[.int .i64 p', .int .i64 c0] 27)) := (hb.alloc hb.size _).alloc (by rw [World.size_alloc]; have := hb.size; omega) _
  exact ⟨(h0.alloc h0.size _).alloc (by rw [World.size_alloc]; have := h0.size; omega) _, HB3.out.2.1.below b1, HB3.out.2.2.1.below b1, HB3.out.2.2.2.later b1, (GX.mk (heap_alloc_new w5 _)).below (zaa _ _), ⟨by have h := heap_alloc_new (w5.alloc (.cells #[(.slice none 0 0)] 24)) (.cells #[.int .i64 p', .int .i64 c0] 27); rw [World.size_alloc] at h; exact h⟩, (hr.later (zaa _ _)).later (zaa _ _)⟩)
 clear hb HQ hr HB3
 go_wp2_with fail
 generalize ((w5.alloc (.cells #[(.slice none 0 0)] 24)).alloc (.cells #[.int .i64 p', .int .i64 c0] 27)) = w6 at *
 generalize w5.heap.size = k5 at *
 refine (HL.out _ (HG.out.later HB5.out.1)).mono ?_
 rintro e w7 ⟨rfl, hb⟩
 have HB7 : Hid (Below w.heap.size w w7 /\ GX w7 k3 (.slice none 0 0) /\ FX w7 (k3 + 1) p c0 /\ GrR w7 (.slice none 0 0) [] /\ GX w7 k5 (.slice none 0 0) /\ FX w7 (k5 + 1) p' c0 /\ GrR w7 (.slice none 0 0) []) := ⟨HB5.out.1.trans (hb.mono HB5.out.1.size), HB5.out.2.1.below hb, HB5.out.2.2.1.below hb, HB5.out.2.2.2.1.later hb, HB5.out.2.2.2.2.1.below hb, HB5.out.2.2.2.2.2.1.below hb, HB5.out.2.2.2.2.2.2.later hb⟩
 clear hb HB5 HL
 have g1 := HB7.out.2.1.cl
 have g2 := HB7.out.2.2.2.2.1.cl
 have c1 := HB7.out.2.2.1.c1
 have c2 := HB7.out.2.2.2.2.2.1.c1
 go_wp2_with fail
 refine (HS.out _ _ _ HB7.out.2.2.2.1 HB7.out.2.2.2.2.2.2).mono ?_
 rintro e w8 ⟨rfl, hb⟩
 have HB8 : Hid (Below w.heap.size w w8) := HB7.out.1.trans (hb.mono HB7.out.1.size)
 clear hb HB7 HS g1 g2 c1 c2
 go_wp2_with fail
 go_ret
 exact ⟨rfl, HB8.out⟩
theorem zdZ (s : ByteArray) (hs2 : s.size <= 140737488355000) (w : World) (hg : GW w) : Calls Tryz.prog 7 #[.string s] w fun e w' => e = .returned (.bool true) /\ Below w.heap.size w w' := by
 cases hl : zbn (zaE s) s with
 | inr q => exact zlS s hs2 w hg q hl
 | inl l =>
  by_cases h : (txR l).2 = 0
  ·rcases znt hl h with ⟨gs, h1, h2⟩ | ⟨p, p', c, h1, h2⟩
   ·exact zlT s hs2 w hg l hl h gs h1 h2
   ·exact zjm s hs2 w hg l hl h p p' c h1 h2
  ·exact zjl s hs2 w hg l hl h
end Go.Proofs.YtkihfkcmcdiajaaGreatDoor.N
namespace Go.Proofs.YtkihfkcmcdiajaaGreatDoor
open Go.ChangeShapes Go.WideShapes Go.ChangeAt Go.RowKit
open Go.ChangeMaps (open_string shut_string)
theorem zcM (H : Type) (enc : TypeId × Value -> H) (W : World) (base : Nat) (args : Array Value) (ds gs : List (DataW H)) (before : List MemPlace)
  (hval0 : ∀ (j : Nat) t v, Tryz.f7.params[j]? = some t -> args[j]? = some v -> Value.okWide Tryz.prog W .any base t v)
  (hW : DataW.Whole enc Tryz.prog Tryz.f7.params.toList Rows.notationBlanksSpec.vars false W args.toList ds gs before) (hvb : N.GW W)
  (hsz : (DataW.weightsEach Tryz.prog (Tryz.f7.params.toList ++ (OpenSpec.ofChange Rows.notationBlanksSpec).bare.plain.varTypes Tryz.prog) (ds ++ gs)).all (· <= reachBytes) = true) :
  Calls Tryz.prog 7 args W fun e W' => ∃ v, e = .returned v /\ Rows.notationBlanksSpec.post enc Tryz.prog Tryz.f7 false true false false W args v W' := by
 have hval : ∀ (j : Nat) t v, Tryz.f7.params[j]? = some t -> args[j]? = some v -> Value.okWide Tryz.prog W .any base t v := hval0
 have hW' := hW
 obtain ⟨p, q, hA0, hV, rfl, hfz, hnd⟩ := hW
 have hA : DataW.TrodAll enc Tryz.prog W 0 (fun _ => true) true Tryz.f7.params.toList args.toList ds p := hA0
 rw [Tryz.params7] at hA hval hsz
 obtain ⟨v1, d1, rfl, rfl, h1⟩ := trodAll_one hA
 obtain ⟨rfl, rfl⟩ := trodVars_none hV
 obtain ⟨s1, rfl, rfl, rfl, hs1⟩ := open_string Tryz.underlying9 (hval 0 9 v1 rfl rfl) h1
 clear hA0 hval0
 have hb : s1.size <= 140737488355000 := by
  have h := sized_string hsz (j := 0) rfl rfl
  have e : s1.data.toList.length = s1.size := rfl
  have r : reachBytes <= 140737488355000 := by decide
  omega
 refine (N.zdZ s1 hb W hvb).mono fun e W' ⟨he, bel⟩ => ?_
 subst he
 exact ⟨_, rfl, _, _, _, [], _, [], hW', trodAll_mk1 (shut_bool Tryz.underlying4 _), (trodAll_cons_mk (shut_string Tryz.underlying9 hs1) trodAll_mk0), rfl, bel.frame _, fun h => by cases h⟩
theorem zdN (os : Os) : laidMet Tryz.prog Rows.notationBlanksRow.laid ((zlE (World.holding Tryz.prog os ⟨#[], #[], []⟩)).forCall (fun _ _ => 0) ⟨#[], #[.string ByteArray.empty], []⟩).memory :=
 laidMet_of_run' 8 (by kernel_rfl) (by kernel_rfl)
theorem zda (os : Os) {H : Type} (enc : TypeId × Value -> H) : ∃ places, DataW.whole enc Tryz.prog ((zlE (World.holding Tryz.prog os ⟨#[], #[], []⟩)).forCall (fun _ _ => 0) ⟨#[], #[.string ByteArray.empty], []⟩).memory Tryz.f7.params.toList Rows.notationBlanksSpec.vars false (#[.string ByteArray.empty] : Array Value).toList 8 = some ([.lit (.string [])], [], places) :=
 ⟨[], by kernel_rfl⟩
theorem zc3 (os : Os) (started : os.Started) (H : Type) (enc : TypeId × Value -> H) (F : Stop.Interp) :
  ReturnsInHanded {} Tryz.checked os 7 .any ((OpenSpec.ofChange Rows.notationBlanksSpec).preRow enc Tryz.prog Tryz.f7 Rows.notationBlanksRow.domain false Rows.notationBlanksRow.laid) (((OpenSpec.ofChange Rows.notationBlanksSpec).at F).post enc Tryz.prog Tryz.f7 false true false false) := by
 obtain ⟨places, hx⟩ := zda os enc
 refine returnsInHanded_of_row (C := Tryz.checked) (s := OpenSpec.ofChange Rows.notationBlanksSpec) own started (by kernel_rfl) Tryz.func7
  (witness_row_at (enc := enc) (C := Tryz.checked) false (zlE (World.holding Tryz.prog os ⟨#[], #[], []⟩)) #[.string ByteArray.empty] rfl (by kernel_rfl) (by kernel_rfl) (by kernel_rfl)
   (OpenSpec.preRow_of_cond 8 hx (by kernel_rfl) (fun k hk => by cases hk) (by kernel_rfl) (zdN os))) ?_
 intro W base args ds gs before hval hW _ hcond hsz hL _ _
 exact zcM H enc W base args ds gs before hval hW (zjd hL) hsz
theorem zdO : Rows.NotationBlanksSaid :=
 OpenClaim.holds_of_cond 7 Tryz.f7 rfl rfl rfl rfl rfl rfl rfl ⟨rfl, rfl, rfl, rfl, rfl⟩ rfl rfl rfl rfl rfl (by kernel_rfl) Tryz.func7 (by kernel_rfl)
  (of_decide_eq_true (by kernel_rfl)) (by unfold Func.isWrapper; first | (rw [if_pos (by decide +kernel)]; kernel_rfl) | (rw [if_neg (by decide +kernel)]; exact ⟨rfl, rfl⟩))
  (fun os started H enc _ F => by rw [OpenClaim.pre_eq_preRow]; exact zc3 os started H enc F)
theorem zdb (f : FuncId) (fn : Func) (hf : Tryz.pinned.checked.prog.funcNamed "harrow/harrowlaw06.NotationBlanks" = some f) (hfn : Tryz.pinned.checked.prog.funcs[f]? = some fn) :
  true = Tryz.pinned.checked.prog.looks [] /\ ∀ (j : Nat) t, fn.params[j]? = some t -> Tryz.pinned.checked.prog.wantsStandIn t = false := by
 obtain rfl : f = 7 := Option.some.inj ((show Tryz.prog.funcNamed "harrow/harrowlaw06.NotationBlanks" = some 7 by kernel_rfl).symm.trans hf) |>.symm
 obtain rfl : fn = Tryz.f7 := (Option.some.inj (Tryz.func7.symm.trans hfn)).symm
 refine ⟨by kernel_rfl, fun j t ht => ?_⟩
 rw [Tryz.params7] at ht
 have hm : t ∈ [9] := by simpa using Array.mem_of_getElem? ht
 have hall : ([9].all fun u => !Tryz.prog.wantsStandIn u) = true := by kernel_rfl
 exact (show Tryz.prog.wantsStandIn t = false by simpa using List.all_eq_true.1 hall t hm)
theorem notationBlanks_holds : Rows.NotationBlanksCardSaid :=
 Claim7.holds_tied_plain_at .later [] _ _ _ _ zdO (fun _ h => by cases h) (by kernel_rfl) (fun _ h => by cases h) notationBlanks_row_tie rfl ⟨rfl, rfl⟩ (by kernel_rfl) rfl zdb (by kernel_rfl)
end Go.Proofs.YtkihfkcmcdiajaaGreatDoor
