/- DERIVED. Plain mathematics and walks, laid together (7). -/
import Derived.Test.YtnpifgcgjgddoaaGreatDoorPw06
set_option maxRecDepth 100000
set_option maxHeartbeats 8000000
namespace Go.Proofs.YtnpifgcgjgddoaaGreatDoor.N
open Go.RowKit
def cvN (n : R.Nd) : Nd := ⟨n.1, 0, ⟨#[]⟩, wd n.2 0, wd n.2 1, wd n.2 2, wd n.2 3⟩
theorem zpu (l : List R.Nd) : R.ndc l = T.ndc (l.map cvN) := by
 unfold R.ndc T.ndc
 rw [List.flatMap_map]
 rfl
def rnP (lo hi : Int) : List Nd := (R.zjG (R.zdi lo hi)).map cvN
def tmL (tx : ByteArray) : List Nd := [⟨1, 0, ⟨#[]⟩, 0, 0, 0, 0⟩, ⟨22, 0, tx, 0, 0, 0, 0⟩]
theorem ck_tm (tx : ByteArray) : ((T.ck (tmL tx)).2 == 0) = T.tmB tx := by
 have e : (⟨#[]⟩ : ByteArray) = ByteArray.empty := rfl
 cases h : T.tmB tx <;> simp [tmL, T.ck, T.zjF, T.er, T.alE, T.fdF, T.txF, T.nuF, T.seF, T.ar, T.run, T.pt, T.mk, T.arN, T.zde, h, e]
theorem rd_two (w : World) (a b : Nd) : T.RdN (w.alloc (.cells #[.int .i64 a.op, .int .i64 a.nn, .string a.tx, .int .u64 a.s0, .int .u64 a.s1, .int .u64 a.s2, .int .u64 a.s3, .int .i64 b.op, .int .i64 b.nn, .string b.tx, .int .u64 b.s0, .int .u64 b.s1, .int .u64 b.s2, .int .u64 b.s3] 51)) (some ⟨w.heap.size, 0, none⟩) [a, b] := fun _ => by
 refine ⟨w.heap.size, 0, rfl, by rw [World.size_alloc]; omega, ?_⟩
 refine T.zhr (B := w.heap.size) (n := 2) (cap := 2) (xs := []) ?_
 rw [List.append_nil]
 exact ⟨rfl, .inr ⟨w.heap.size, 2, _, rfl, Nat.le_refl _, heap_alloc_new w _, Nat.le_refl _, by unfold maxLen; omega, rfl, rfl⟩⟩
theorem zki (tx : ByteArray) (hs : tx.size <= 140737488355328) (W : World) : Calls Tryz.prog 204 #[.string tx] W fun e W' => e = .returned (.bool (T.tmB tx)) /\ Below W.heap.size W W' := by
 have HC : Hid (∀ _ : Unit, Calls Tryz.prog 25 #[.slice (some ⟨W.heap.size, 0, none⟩) 2 2] (W.alloc (.cells #[.int .i64 1, .int .i64 0, .string ⟨#[]⟩, .int .u64 0, .int .u64 0, .int .u64 0, .int .u64 0, .int .i64 22, .int .i64 0, .string tx, .int .u64 0, .int .u64 0, .int .u64 0, .int .u64 0] 51)) fun e w' => e = .returned (.tuple #[.int .i64 (T.ck (tmL tx)).1, .int .i64 (T.ck (tmL tx)).2]) /\ Below (W.heap.size + 1) (W.alloc (.cells #[.int .i64 1, .int .i64 0, .string ⟨#[]⟩, .int .u64 0, .int .u64 0, .int .u64 0, .int .u64 0, .int .i64 22, .int .i64 0, .string tx, .int .u64 0, .int .u64 0, .int .u64 0, .int .u64 0] 51)) w') := fun _ => by
  have h := T.zbb (tmL tx) (some ⟨W.heap.size, 0, none⟩) 2 (by show 2 <= _; omega) (by intro n hn; rcases List.mem_cons.1 hn with rfl | hn; exact Nat.zero_le _; rw [List.mem_singleton.1 hn]; exact hs) _ (rd_two W _ _)
  rw [World.size_alloc] at h
  exact h
 have HE : Hid (((T.ck (tmL tx)).2 == 0) = T.tmB tx) := ck_tm tx
 generalize T.ck (tmL tx) = r at *
 go_enter Tryz.func204, Tryz.ntmps204
 go_wp2_with fail
 refine (HC.out ()).mono ?_
 rintro e w1 ⟨rfl, hb⟩
 have HB : Hid (Below W.heap.size W w1) := (zaa W _).trans (hb.mono (Nat.le_succ _))
 clear hb HC
 go_wp2_with fail
 go_ret
 exact ⟨by rw [<- HE.out]; rfl, HB.out⟩
def lfN (t : Tk) : List Nd := if t.kd = 2 then (if t.tx.size = 0 then [nd0 1] else [⟨4, 0, t.tx, 0, 0, 0, 0⟩]) else if t.kd = 3 ∨ t.kd = 28 then [⟨5, 0, ⟨#[]⟩, t.s0, t.s1, t.s2, t.s3⟩] else if t.kd = 5 then rnP t.nn t.s0 else if t.kd = 18 then [nd0 3] else if t.kd = 30 then [nd0 2] else if t.kd = 1 then [⟨6, 0, t.tx, 0, 0, 0, 0⟩] else [nd0 1]
theorem own_nd (W : World) (n : Nd) (B : Nat) (hB : B <= W.heap.size) : (W.alloc (.cells #[.int .i64 n.op, .int .i64 n.nn, .string n.tx, .int .u64 n.s0, .int .u64 n.s1, .int .u64 n.s2, .int .u64 n.s3] 51)).ownsRow B 51 7 (.slice (some ⟨W.heap.size, 0, none⟩) 1 1) 1 (T.ndc [n]) := by
 rw [T.zee]
 exact ⟨rfl, .inr ⟨W.heap.size, 1, _, rfl, hB, heap_alloc_new W _, Nat.le_refl _, by unfold maxLen; omega, rfl, rfl⟩⟩
theorem zcF (w : World) (a b : Obj) (n : Nd) : (((w.alloc a).alloc b).alloc (.cells #[.int .i64 n.op, .int .i64 n.nn, .string n.tx, .int .u64 n.s0, .int .u64 n.s1, .int .u64 n.s2, .int .u64 n.s3] 51)).ownsRow w.heap.size 51 7 (.slice (some ⟨w.heap.size + 1 + 1, 0, none⟩) 1 1) 1 (T.ndc [n]) := by
 have h := own_nd ((w.alloc a).alloc b) n w.heap.size (by rw [World.size_alloc, World.size_alloc]; omega)
 rwa [World.size_alloc, World.size_alloc] at h
theorem zcC (w : World) (a b c : Obj) : Below w.heap.size w (((w.alloc a).alloc b).alloc c) := (((Below.refl _ _).alloc (Nat.le_refl _) _).alloc (by rw [World.size_alloc]; omega) _).alloc (by rw [World.size_alloc, World.size_alloc]; omega) _
def LfV (w w' : World) (M : List Nd) (e : Ending) : Prop := ∃ v, e = .returned v /\ w'.ownsRow w.heap.size 51 7 v M.length (T.ndc M)
theorem zpv (t : Tk) (hk : t.kd = 18) (w : World) : Calls Tryz.prog 203 #[tkG t] w fun e w' => LfV w w' [nd0 3] e /\ Below w.heap.size w w' := by
 obtain ⟨kd, nn, fr, en, tx, s0, s1, s2, s3⟩ := t
 obtain rfl : kd = 18 := hk
 go_enter Tryz.func203, Tryz.ntmps203
 go_wp2_with fail
 go_ret
 exact ⟨⟨_, rfl, zcF w _ _ (nd0 3)⟩, zcC _ _ _ _⟩
theorem zpw (t : Tk) (hk : t.kd = 30) (w : World) : Calls Tryz.prog 203 #[tkG t] w fun e w' => LfV w w' [nd0 2] e /\ Below w.heap.size w w' := by
 obtain ⟨kd, nn, fr, en, tx, s0, s1, s2, s3⟩ := t
 obtain rfl : kd = 30 := hk
 go_enter Tryz.func203, Tryz.ntmps203
 go_wp2_with fail
 go_ret
 exact ⟨⟨_, rfl, zcF w _ _ (nd0 2)⟩, zcC _ _ _ _⟩
theorem leaf_1 (t : Tk) (hk : t.kd = 1) (w : World) : Calls Tryz.prog 203 #[tkG t] w fun e w' => LfV w w' [⟨6, 0, t.tx, 0, 0, 0, 0⟩] e /\ Below w.heap.size w w' := by
 obtain ⟨kd, nn, fr, en, tx, s0, s1, s2, s3⟩ := t
 obtain rfl : kd = 1 := hk
 go_enter Tryz.func203, Tryz.ntmps203
 go_wp2_with fail
 go_ret
 exact ⟨⟨_, rfl, zcF w _ _ (⟨6, 0, tx, 0, 0, 0, 0⟩)⟩, zcC _ _ _ _⟩
theorem leaf_3 (t : Tk) (hk : t.kd = 3) (w : World) : Calls Tryz.prog 203 #[tkG t] w fun e w' => LfV w w' [⟨5, 0, ⟨#[]⟩, t.s0, t.s1, t.s2, t.s3⟩] e /\ Below w.heap.size w w' := by
 obtain ⟨kd, nn, fr, en, tx, s0, s1, s2, s3⟩ := t
 obtain rfl : kd = 3 := hk
 go_enter Tryz.func203, Tryz.ntmps203
 go_wp2_with fail
 go_ret
 exact ⟨⟨_, rfl, zcF w _ _ (⟨5, 0, ⟨#[]⟩, s0, s1, s2, s3⟩)⟩, zcC _ _ _ _⟩
theorem zpx (t : Tk) (hk : t.kd = 28) (w : World) : Calls Tryz.prog 203 #[tkG t] w fun e w' => LfV w w' [⟨5, 0, ⟨#[]⟩, t.s0, t.s1, t.s2, t.s3⟩] e /\ Below w.heap.size w w' := by
 obtain ⟨kd, nn, fr, en, tx, s0, s1, s2, s3⟩ := t
 obtain rfl : kd = 28 := hk
 go_enter Tryz.func203, Tryz.ntmps203
 go_wp2_with fail
 go_ret
 exact ⟨⟨_, rfl, zcF w _ _ (⟨5, 0, ⟨#[]⟩, s0, s1, s2, s3⟩)⟩, zcC _ _ _ _⟩
theorem zpy (t : Tk) (hk : t.kd = 29) (w : World) : Calls Tryz.prog 203 #[tkG t] w fun e w' => LfV w w' [nd0 1] e /\ Below w.heap.size w w' := by
 obtain ⟨kd, nn, fr, en, tx, s0, s1, s2, s3⟩ := t
 obtain rfl : kd = 29 := hk
 go_enter Tryz.func203, Tryz.ntmps203
 go_wp2_with fail
 go_ret
 exact ⟨⟨_, rfl, zcF w _ _ (nd0 1)⟩, zcC _ _ _ _⟩
theorem zpz (t : Tk) (hk : t.kd = 2) (ht : t.tx.size = 0) (w : World) : Calls Tryz.prog 203 #[tkG t] w fun e w' => LfV w w' [nd0 1] e /\ Below w.heap.size w w' := by
 obtain ⟨kd, nn, fr, en, tx, s0, s1, s2, s3⟩ := t
 obtain rfl : kd = 2 := hk
 have e1 : tx = ⟨#[]⟩ := by
  have h : tx.size = 0 := ht
  obtain ⟨d⟩ := tx
  rw [Array.eq_empty_of_size_eq_zero (show d.size = 0 from h)]
 subst e1
 clear ht
 go_enter Tryz.func203, Tryz.ntmps203
 go_wp2_with fail
 go_ret
 exact ⟨⟨_, rfl, zcF w _ _ (nd0 1)⟩, zcC _ _ _ _⟩
theorem leaf_2 (t : Tk) (hk : t.kd = 2) (ht : ¬ t.tx.size = 0) (w : World) : Calls Tryz.prog 203 #[tkG t] w fun e w' => LfV w w' [⟨4, 0, t.tx, 0, 0, 0, 0⟩] e /\ Below w.heap.size w w' := by
 obtain ⟨kd, nn, fr, en, tx, s0, s1, s2, s3⟩ := t
 obtain rfl : kd = 2 := hk
 have e1 : tx.toList.isEmpty = false := T.zef ht
 clear ht
 go_enter Tryz.func203, Tryz.ntmps203
 go_wp2_with fail
 go_ret
 exact ⟨⟨_, rfl, zcF w _ _ (⟨4, 0, tx, 0, 0, 0, 0⟩)⟩, zcC _ _ _ _⟩
theorem leaf_5 (t : Tk) (hk : t.kd = 5) (hn : 0 <= t.nn /\ t.nn <= t.s0 /\ t.s0 <= 1114111) (w : World) (hv : R.VB w) : Calls Tryz.prog 203 #[tkG t] w fun e w' => LfV w w' (rnP t.nn t.s0) e /\ Below w.heap.size w w' := by
 obtain ⟨kd, nn, fr, en, tx, s0, s1, s2, s3⟩ := t
 obtain rfl : kd = 5 := hk
 dsimp only at hn ⊢
 have HP : Hid (∀ W, R.VB W -> Calls Tryz.prog 209 #[.int .i64 nn, .int .i64 s0] W fun e w' => (∃ v, e = .returned (.tuple #[v, .int .i64 0]) /\ w'.ownsRow W.heap.size 51 7 v (rnP nn s0).length (T.ndc (rnP nn s0))) /\ Below W.heap.size W w') := fun W h => by
  refine (R.zbY nn s0 W h).mono ?_
  rintro e w' ⟨h1, h2⟩
  refine ⟨?_, h2⟩
  unfold R.PnV at h1
  rw [if_pos ⟨by unfold R.bdB; exact decide_eq_true (by omega), by unfold R.bdB; exact decide_eq_true (by omega)⟩, if_pos hn.2.1] at h1
  obtain ⟨v, h3, h4⟩ := h1
  exact ⟨v, h3, by unfold rnP; rw [List.length_map, <- zpu]; exact h4⟩
 have HV : Hid (R.VB w) := hv
 have u1 : IntKind.i64.wrap s0 = s0 := by rw [IntKind.wrap_i64]; omega
 clear hv hn
 generalize rnP nn s0 = M at *
 go_enter Tryz.func203, Tryz.ntmps203
 go_wp2_with fail
 have hb2 : ∀ a b : Obj, Below w.heap.size w ((w.alloc a).alloc b) := fun a b => ((Below.refl _ _).alloc (Nat.le_refl _) _).alloc (by rw [World.size_alloc]; omega) _
 refine (HP.out _ (HV.out.below (hb2 _ _) HV.out.lt)).mono ?_
 rintro e w1 ⟨⟨v, rfl, ho⟩, hb⟩
 have HO : Hid (w1.ownsRow w.heap.size 51 7 v M.length (T.ndc M) /\ Below w.heap.size w w1) := ⟨zbo ho (by rw [World.size_alloc, World.size_alloc]; omega), (hb2 _ _).trans (hb.mono (by rw [World.size_alloc, World.size_alloc]; omega))⟩
 clear ho hb hb2 HP HV
 go_wp2_with fail
 go_ret
 exact ⟨⟨v, rfl, HO.out.1⟩, HO.out.2⟩
theorem zmu (t : Tk) (hk : t.kd = 2 ∨ t.kd = 3 ∨ t.kd = 28 ∨ t.kd = 5 ∨ t.kd = 18 ∨ t.kd = 29 ∨ t.kd = 30 ∨ t.kd = 1) (hn : t.kd = 5 -> 0 <= t.nn /\ t.nn <= t.s0 /\ t.s0 <= 1114111) (w : World) (hv : R.VB w) : Calls Tryz.prog 203 #[tkG t] w fun e w' => LfV w w' (lfN t) e /\ Below w.heap.size w w' := by
 rcases hk with h | h | h | h | h | h | h | h
 ·by_cases q : t.tx.size = 0
  ·rw [show lfN t = [nd0 1] from by unfold lfN; rw [if_pos h, if_pos q]]; exact zpz t h q w
  ·rw [show lfN t = [⟨4, 0, t.tx, 0, 0, 0, 0⟩] from by unfold lfN; rw [if_pos h, if_neg q]]; exact leaf_2 t h q w
 ·rw [show lfN t = [⟨5, 0, ⟨#[]⟩, t.s0, t.s1, t.s2, t.s3⟩] from by unfold lfN; rw [if_neg (by omega), if_pos (.inl h)]]; exact leaf_3 t h w
 ·rw [show lfN t = [⟨5, 0, ⟨#[]⟩, t.s0, t.s1, t.s2, t.s3⟩] from by unfold lfN; rw [if_neg (by omega), if_pos (.inr h)]]; exact zpx t h w
 ·rw [show lfN t = rnP t.nn t.s0 from by unfold lfN; rw [if_neg (by omega), if_neg (by omega), if_pos h]]; exact leaf_5 t h (hn h) w hv
 ·rw [show lfN t = [nd0 3] from by unfold lfN; rw [if_neg (by omega), if_neg (by omega), if_neg (by omega), if_pos h]]; exact zpv t h w
 ·rw [show lfN t = [nd0 1] from by unfold lfN; rw [if_neg (by omega), if_neg (by omega), if_neg (by omega), if_neg (by omega), if_neg (by omega), if_neg (by omega)]]; exact zpy t h w
 ·rw [show lfN t = [nd0 2] from by unfold lfN; rw [if_neg (by omega), if_neg (by omega), if_neg (by omega), if_neg (by omega), if_pos h]]; exact zpw t h w
 ·rw [show lfN t = [⟨6, 0, t.tx, 0, 0, 0, 0⟩] from by unfold lfN; rw [if_neg (by omega), if_neg (by omega), if_neg (by omega), if_neg (by omega), if_neg (by omega), if_pos h]]; exact leaf_1 t h w
theorem zkj {rn : Int -> Int -> List Nd} (hr : ∀ a b, (rn a b).length + 1 <= 10027010) {t : Tk} {k2 : Int} {p : List Nd × Nat} (h : zbW rn t k2 = .inl p) : p.1.length + 1 <= 10027010 := by
 unfold zbW at h
 by_cases c0 : t.kd = 2
 ·rw [if_pos c0] at h
  cases h; first | exact hr _ _ | (show List.length _ + 1 <= _; simp; done) | (show (if _ then _ else _ : List Nd).length + 1 <= _; split <;> simp)
 rw [if_neg c0] at h
 by_cases c1 : t.kd = 3 ∨ t.kd = 28
 ·rw [if_pos c1] at h
  cases h; first | exact hr _ _ | (show List.length _ + 1 <= _; simp; done) | (show (if _ then _ else _ : List Nd).length + 1 <= _; split <;> simp)
 rw [if_neg c1] at h
 by_cases c2 : t.kd = 5
 ·rw [if_pos c2] at h
  cases h; first | exact hr _ _ | (show List.length _ + 1 <= _; simp; done) | (show (if _ then _ else _ : List Nd).length + 1 <= _; split <;> simp)
 rw [if_neg c2] at h
 by_cases c3 : t.kd = 18
 ·rw [if_pos c3] at h
  cases h; first | exact hr _ _ | (show List.length _ + 1 <= _; simp; done) | (show (if _ then _ else _ : List Nd).length + 1 <= _; split <;> simp)
 rw [if_neg c3] at h
 by_cases c4 : t.kd = 29
 ·rw [if_pos c4] at h
  cases h; first | exact hr _ _ | (show List.length _ + 1 <= _; simp; done) | (show (if _ then _ else _ : List Nd).length + 1 <= _; split <;> simp)
 rw [if_neg c4] at h
 by_cases c5 : t.kd = 30
 ·rw [if_pos c5] at h
  cases h; first | exact hr _ _ | (show List.length _ + 1 <= _; simp; done) | (show (if _ then _ else _ : List Nd).length + 1 <= _; split <;> simp)
 rw [if_neg c5] at h
 by_cases c6 : t.kd = 1
 ·rw [if_pos c6] at h
  cases h; first | exact hr _ _ | (show List.length _ + 1 <= _; simp; done) | (show (if _ then _ else _ : List Nd).length + 1 <= _; split <;> simp)
 rw [if_neg c6] at h
 by_cases c7 : t.kd = 16
 ·rw [if_pos c7] at h
  cases h
 rw [if_neg c7] at h
 by_cases c8 : t.kd = 19
 ·rw [if_pos c8] at h
  by_cases d : k2 = 20
  ·rw [if_pos d] at h
   cases h; show List.length _ + 1 <= _; simp
  ·rw [if_neg d] at h
   cases h
 rw [if_neg c8] at h
 by_cases c9 : t.kd = 21
 ·rw [if_pos c9] at h
  cases h
 rw [if_neg c9] at h
 by_cases c10 : t.kd = 23
 ·rw [if_pos c10] at h
  cases h
 rw [if_neg c10] at h
 cases h
theorem zjd {rn : Int -> Int -> List Nd} {t : Tk} {k2 : Int} {p : Int × List Nd} (h : zbW rn t k2 = .inr p) : p.2.length <= 1 := by
 unfold zbW at h
 by_cases c0 : t.kd = 2
 ·rw [if_pos c0] at h
  cases h
 rw [if_neg c0] at h
 by_cases c1 : t.kd = 3 ∨ t.kd = 28
 ·rw [if_pos c1] at h
  cases h
 rw [if_neg c1] at h
 by_cases c2 : t.kd = 5
 ·rw [if_pos c2] at h
  cases h
 rw [if_neg c2] at h
 by_cases c3 : t.kd = 18
 ·rw [if_pos c3] at h
  cases h
 rw [if_neg c3] at h
 by_cases c4 : t.kd = 29
 ·rw [if_pos c4] at h
  cases h
 rw [if_neg c4] at h
 by_cases c5 : t.kd = 30
 ·rw [if_pos c5] at h
  cases h
 rw [if_neg c5] at h
 by_cases c6 : t.kd = 1
 ·rw [if_pos c6] at h
  cases h
 rw [if_neg c6] at h
 by_cases c7 : t.kd = 16
 ·rw [if_pos c7] at h
  cases h; show List.length _ <= 1; simp
 rw [if_neg c7] at h
 by_cases c8 : t.kd = 19
 ·rw [if_pos c8] at h
  by_cases d : k2 = 20
  ·rw [if_pos d] at h
   cases h
  ·rw [if_neg d] at h
   cases h; show List.length _ <= 1; simp
 rw [if_neg c8] at h
 by_cases c9 : t.kd = 21
 ·rw [if_pos c9] at h
  cases h; show List.length _ <= 1; simp
 rw [if_neg c9] at h
 by_cases c10 : t.kd = 23
 ·rw [if_pos c10] at h
  cases h; show List.length _ <= 1; simp
 rw [if_neg c10] at h
 cases h; show List.length _ <= 1; simp
theorem PF_len (E : PE) (hr : ∀ a b, (E.rn a b).length + 1 <= 10027010) : ∀ (f m i d a : Nat) (ns : List Nd), i <= E.l.length -> (m = 5 -> i < E.l.length) -> PF E f m i d = .inl (a, ns) -> (m = 0 ∨ m = 2 ∨ m = 4 ∨ m = 5 -> ns.length + 1 <= 10027010 * (a - i)) /\ ns.length <= 10027010 * (a - i) := by
 intro f
 induction f with
 | zero => intro m i d a ns _ _ h; rw [PF] at h; cases h
 | succ f ih =>
  intro m i d a ns hi h5 h
  rw [PF] at h
  by_cases m0 : m = 0
  ·rw [if_pos m0] at h
   obtain ⟨a1, n1, r1, h⟩ := zau h
   obtain ⟨n2, r2, e2⟩ := zaF h
   obtain ⟨x1, x2, x3⟩ := zaL E _ _ _ _ _ _ hi (by omega) r1
   obtain ⟨y1, y2, _⟩ := zaL E _ _ _ _ _ _ x2 (by omega) r2
   obtain ⟨u1, u2⟩ := ih _ _ _ _ _ hi (by omega) r1
   obtain ⟨v1, v2⟩ := ih _ _ _ _ _ x2 (by omega) r2
   have := u1 (by omega)
   dsimp only at y1 y2 e2 v2
   rw [e2, List.length_append]
   exact ⟨fun _ => by omega, by omega⟩
  rw [if_neg m0] at h
  by_cases m1 : m = 1
  ·rw [if_pos m1] at h
   by_cases k7 : kdA E i = 7
   ·have hlt := zbl (E := E) (i := i) (by omega)
    rw [if_pos k7] at h
    obtain ⟨a1, n1, r1, h⟩ := zau h
    obtain ⟨n2, r2, e2⟩ := zaF h
    obtain ⟨x1, x2, x3⟩ := zaL E _ _ _ _ _ _ (by omega) (by omega) r1
    obtain ⟨y1, y2, _⟩ := zaL E _ _ _ _ _ _ x2 (by omega) r2
    obtain ⟨u1, u2⟩ := ih _ _ _ _ _ (by omega) (by omega) r1
    obtain ⟨v1, v2⟩ := ih _ _ _ _ _ x2 (by omega) r2
    have := u1 (by omega)
    dsimp only at y1 y2 e2 v2
    rw [e2, List.length_append, List.length_append, List.length_singleton]
    exact ⟨fun q => by omega, by omega⟩
   ·rw [if_neg k7] at h
    cases h
    exact ⟨fun q => by omega, by simp⟩
  rw [if_neg m1] at h
  by_cases m2 : m = 2
  ·rw [if_pos m2] at h
   obtain ⟨a1, n1, r1, h⟩ := zau h
   obtain ⟨n2, r2, e2⟩ := zaF h
   obtain ⟨x1, x2, x3⟩ := zaL E _ _ _ _ _ _ hi (by omega) r1
   obtain ⟨y1, y2, _⟩ := zaL E _ _ _ _ _ _ x2 (by omega) r2
   obtain ⟨u1, u2⟩ := ih _ _ _ _ _ hi (by omega) r1
   obtain ⟨v1, v2⟩ := ih _ _ _ _ _ x2 (by omega) r2
   have := u1 (by omega)
   dsimp only at y1 y2 e2 v2
   rw [e2, List.length_append]
   exact ⟨fun _ => by omega, by omega⟩
  rw [if_neg m2] at h
  by_cases m3 : m = 3
  ·rw [if_pos m3] at h
   by_cases kb : bgn E i = true
   ·have hlt := zcD kb
    rw [if_pos kb] at h
    obtain ⟨a1, n1, r1, h⟩ := zau h
    obtain ⟨n2, r2, e2⟩ := zaF h
    obtain ⟨x1, x2, x3⟩ := zaL E _ _ _ _ _ _ (by omega) (by omega) r1
    obtain ⟨y1, y2, _⟩ := zaL E _ _ _ _ _ _ x2 (by omega) r2
    obtain ⟨u1, u2⟩ := ih _ _ _ _ _ (by omega) (by omega) r1
    obtain ⟨v1, v2⟩ := ih _ _ _ _ _ x2 (by omega) r2
    have := u1 (by omega)
    dsimp only at y1 y2 e2 v2
    rw [e2, List.length_append, List.length_append, List.length_singleton]
    exact ⟨fun q => by omega, by omega⟩
   ·rw [if_neg kb] at h
    cases h
    exact ⟨fun q => by omega, by simp⟩
  rw [if_neg m3] at h
  by_cases m4 : m = 4
  ·rw [if_pos m4] at h
   by_cases kb : bgn E i = true
   ·have hlt := zcD kb
    rw [if_pos kb] at h
    by_cases k8 : kdA E i = 8 ∨ kdA E i = 9
    ·rw [if_pos k8] at h
     split at h
     ·cases h
     ·obtain ⟨a1, n1, r1, h⟩ := zau h
      cases h
      obtain ⟨x1, x2, x3⟩ := zaL E _ _ _ _ _ _ (by omega) (by omega) r1
      obtain ⟨u1, u2⟩ := ih _ _ _ _ _ (by omega) (by omega) r1
      have := u1 (by omega)
      rw [List.length_append, List.length_singleton]
      exact ⟨fun _ => by omega, by omega⟩
    ·rw [if_neg k8] at h
     obtain ⟨a1, n1, r1, h⟩ := zau h
     obtain ⟨n2, r2, e2⟩ := zaF h
     obtain ⟨x1, x2, x3⟩ := zaL E _ _ _ _ _ _ (by omega) (fun _ => hlt) r1
     obtain ⟨y1, y2, _⟩ := zaL E _ _ _ _ _ _ x2 (by omega) r2
     obtain ⟨u1, u2⟩ := ih _ _ _ _ _ (by omega) (fun _ => hlt) r1
     obtain ⟨v1, v2⟩ := ih _ _ _ _ _ x2 (by omega) r2
     have := u1 (by omega)
     dsimp only at y1 y2 e2 v2
     rw [e2, List.length_append]
     exact ⟨fun _ => by omega, by omega⟩
   ·rw [if_neg kb] at h; cases h
  rw [if_neg m4] at h
  by_cases m5 : m = 5
  ·rw [if_pos m5] at h
   have hlt := h5 m5
   cases hp : zbt E i with
   | inl p =>
    rw [hp] at h
    cases h
    have h1 := zjR hlt hp
    have h2 := zkj hr hp
    exact ⟨fun _ => by omega, by omega⟩
   | inr p =>
    rw [hp] at h
    dsimp only at h
    have h2 := zjd hp
    split at h
    ·cases h
    ·obtain ⟨a1, n1, r1, h⟩ := zau h
     obtain ⟨x1, x2, x3⟩ := zaL E _ _ _ _ _ _ (by omega) (by omega) r1
     obtain ⟨u1, u2⟩ := ih _ _ _ _ _ (by omega) (by omega) r1
     have := u1 (by omega)
     split at h
     ·cases h
      rw [List.length_append]
      exact ⟨fun _ => by omega, by omega⟩
     ·cases h
  rw [if_neg m5] at h
  cases hp : zfB E i with
  | inr q =>
   rw [hp] at h
   cases q with
   | none => cases h; exact ⟨fun q => by omega, by simp⟩
   | some c => cases h
  | inl p =>
   rw [hp] at h
   dsimp only at h
   obtain ⟨n2, r2, e2⟩ := zaF h
   have h1 := zgo hp
   obtain ⟨y1, y2, _⟩ := zaL E _ _ _ _ _ _ h1.2 (by omega) r2
   obtain ⟨v1, v2⟩ := ih _ _ _ _ _ h1.2 (by omega) r2
   dsimp only at y1 y2 e2 v2
   rw [e2, List.length_append, List.length_singleton]
   exact ⟨fun q => by omega, by omega⟩
theorem zdI {E : PE} (hr : ∀ a b, (E.rn a b).length + 1 <= 10027010) {m i d a : Nat} {ns : List Nd} (hi : i <= E.l.length) (h5 : m = 5 -> i < E.l.length) (h : gN E m i d = .inl (a, ns)) : (m = 0 ∨ m = 2 ∨ m = 4 ∨ m = 5 -> ns.length + 1 <= 10027010 * (a - i)) /\ ns.length <= 10027010 * (a - i) := PF_len E hr _ _ _ _ _ _ hi h5 h
theorem zkk (a b : Int) : (rnP a b).length + 1 <= 10027010 := by
 unfold rnP
 rw [List.length_map]
 have h1 := R.zid a b 5
 rw [R.zfJ] at h1
 unfold R.zjG
 split
 ·simp
 ·have h2 := R.zig (R.zdi a b) (R.zdi a b).length (fun s hs => (R.zeo a b s hs).2.2)
  omega
structure OkE (E : PE) : Prop where
 len : E.l.length <= 65536
 rn : E.rn = rnP
 tm : E.tm = T.tmB
 rg : ∀ t ∈ E.l, t.kd = 5 -> 0 <= t.nn /\ t.nn <= t.s0 /\ t.s0 <= 1114111
 tx : ∀ t ∈ E.l, t.tx.size <= 65536
 n0 : ∀ t ∈ E.l, t.kd = 10 ∨ t.kd = 11 ∨ t.kd = 12 -> t.nn = 0
theorem OkE.rl {E : PE} (h : OkE E) : ∀ a b, (E.rn a b).length + 1 <= 10027010 := fun a b => by rw [h.rn]; exact zkk a b
theorem OkE.z {E : PE} (h : OkE E) : E.l.length <= 1000000 := Nat.le_trans h.len (by omega)
def PoR (E : PE) (z : Nat) (w0 : World) (b : Nat) (tv : Value) (d : Nat) (W : World) (v : Value) (L : List Nd) (r : PR) (e : Ending) (W' : World) : Prop := match r with
 | .inl p => e = .returned (.tuple #[]) /\ ∃ v', RS E z w0 W' b tv p.1 d v' (L ++ p.2) /\ Fr W W' b v v'
 | .inr q => e = pnc (plA E z q.1) q.2 /\ Below w0.heap.size w0 W'
def Ct (F : Nat) (E : PE) (z : Nat) (w0 : World) (b : Nat) (tv : Value) (i d : Nat) (r : PR) : Prop :=
 ∀ (W : World) (v : Value) (L : List Nd), RS E z w0 W b tv i d v L -> L.length <= 10027010 * i -> Calls Tryz.prog F #[.pointer (some ⟨b, 0, none⟩)] W fun e W' => PoR E z w0 b tv d W v L r e W'
def nxt (b : Nat) (W : World) : Nat := match W.cell? ⟨b, 1, none⟩ with
 | some (.int .i64 i) => i.toNat
 | _ => 0
theorem RS.nx {E : PE} {z : Nat} {w0 W : World} {b : Nat} {tv : Value} {i d : Nat} {v : Value} {L : List Nd} (h : RS E z w0 W b tv i d v L) : nxt b W = i := by
 unfold nxt
 rw [h.x.cl.2.1]
 rfl
theorem zfO {E : PE} {z : Nat} {w0 W : World} {b : Nat} {tv : Value} {i d : Nat} {v : Value} {L : List Nd} (h : RS E z w0 W b tv i d v L) (n : Nd) (hl : L.length + 1 <= 2000000000000) :
  Calls Tryz.prog 119 #[.pointer (some ⟨b, 0, none⟩), .slice (some ⟨W.heap.size, 0, none⟩) 1 1] (W.alloc (.cells #[.int .i64 n.op, .int .i64 n.nn, .string n.tx, .int .u64 n.s0, .int .u64 n.s1, .int .u64 n.s2, .int .u64 n.s3] 51)) fun e W' => e = .returned (.tuple #[]) /\ ∃ v', RS E z w0 W' b tv i d v' (L ++ [n]) /\ Fr W W' b v v' := by
 refine (zj5 (h.later (zaa W _)) [n] W.heap.size 1 (by simp) hl (by rw [T.zee]; exact World.news_of_block (t := 51) (fr := (0, 0)) (heap_alloc_new W _))).mono ?_
 rintro e w' ⟨h1, v', h2, h3⟩
 exact ⟨h1, v', h2, (Fr.below b v (zaa W _)).trans h3⟩
theorem zkl {E : PE} (hE : OkE E) {z : Nat} {w0 : World} {b : Nat} {tv : Value} {i d : Nat} (HS0 : ∀ a, i <= a -> a <= E.l.length -> Ct 118 E z w0 b tv a d (gN E 2 a d)) : Ct 89 E z w0 b tv i d (gN E 0 i d) := by
 intro W v L h hL
 have hi := h.hi
 have hlen := hE.len
 have HS : Hid (∀ a, i <= a -> a <= E.l.length -> Ct 118 E z w0 b tv a d (gN E 2 a d)) := HS0
 have H := hO h
 have HE := hO hE
 have HC : Hid (∀ _ : Unit, Calls Tryz.prog 118 #[.pointer (some ⟨b, 0, none⟩)] W fun e W' => PoR E z w0 b tv d W v L (gN E 2 i d) e W') := fun _ => HS0 i (Nat.le_refl _) hi W v L h hL
 have HG := hO (g0 E i d hi)
 clear h hE HS0
 cases hr : gN E 2 i d with
 | inr q =>
  rw [hr] at HC HG
  have HV : Hid (gN E 0 i d = .inr q) := HG.out
  rw [HV.out]
  clear HG hr HS
  go_enter Tryz.func89, Tryz.ntmps89
  go_wp2_with fail
  refine (HC.out ()).mono ?_
  rintro e w1 ⟨rfl, hb⟩
  exact zae rfl ⟨rfl, hb⟩
 | inl p =>
  obtain ⟨a, ns⟩ := p
  rw [hr] at HC HG
  have hadv := zdH hi (by omega) hr
  have hlenN := (zdI HE.out.rl hi (by omega) hr).1 (by omega)
  have HV : Hid (gN E 0 i d = ahd ns (gN E 1 a d)) := HG.out
  generalize gN E 0 i d = R0 at *
  have hia := hadv.2.2 (by omega)
  have hal := hadv.2.1
  clear HG hr hadv
  go_enter Tryz.func89, Tryz.ntmps89
  go_wp2_with fail
  refine (HC.out ()).mono ?_
  rintro e w1 ⟨rfl, v1, h1, hf1⟩
  have H1 := hO h1
  have HF1 : Hid (Fr W w1 b v v1) := hf1
  obtain ⟨v0, hv0⟩ : ∃ u, u = v := ⟨_, rfl⟩
  rw [<- hv0] at HF1
  clear HC h1 hf1
  go_wp2_with fail
  go_loopw [4] (fun _ wr => ∃ (a : Nat) (v : Value) (M : List Nd), i < a /\ a <= E.l.length /\ (L ++ M).length <= 10027010 * a /\ Hid (RS E z w0 wr b tv a d v (L ++ M)) /\ Hid (Fr W wr b v0 v) /\ Hid (R0 = ahd M (gN E 1 a d))) (fun _ wr => E.l.length - nxt b wr)
  case atStart => exact ⟨a, v1, ns, hia, hal, by rw [List.length_append]; omega, H1, HF1, HV⟩
  case round =>
   obtain ⟨a, v, M, ha1, ha2, hlm, HW, HFW, HR⟩ := hrel
   clear H1 HF1 HV hia hal hlenN
   have HGa := hO (g1 E a d ha2)
   obtain ⟨t, ht, hk, _, _⟩ := zaw E z ha2
   have HH : Hid (∀ _ : Unit, Calls Tryz.prog 62 #[.pointer (some ⟨b, 0, none⟩)] wr fun e W' => e = .returned (.agg #[.int .i64 t.kd, .int .i64 t.nn, .int .i64 t.fr, .int .i64 t.en, .string t.tx, .int .u64 t.s0, .int .u64 t.s1, .int .u64 t.s2, .int .u64 t.s3]) /\ Below wr.heap.size wr W') := fun _ => zaC HW.out t ht
   have fl0 := zlX
   have hz := HE.out.z
   by_cases hkk : kdA E a = 7
   ·have hlt := zbl (E := E) (i := a) (by omega)
    rw [hk.trans hkk] at HH
    have HP : Hid (∀ W, RS E z w0 W b tv a d v (L ++ M) -> Calls Tryz.prog 90 #[.pointer (some ⟨b, 0, none⟩), .int .i64 7] W fun e W' => e = .returned (.tuple #[]) /\ RS E z w0 W' b tv (a + 1) d v (L ++ M) /\ Fr W W' b v v) := fun W h => by
     have := zcs h hlt hz
     rw [hkk] at this
     exact this
    clear ht hk
    have HSa : Hid (∀ W, RS E z w0 W b tv (a + 1) d v (L ++ M) -> Calls Tryz.prog 118 #[.pointer (some ⟨b, 0, none⟩)] W fun e W' => PoR E z w0 b tv d W v (L ++ M) (gN E 2 (a + 1) d) e W') := fun W h => HS.out (a + 1) (by omega) (by omega) W v _ h (by omega)
    cases hr : gN E 2 (a + 1) d with
    | inr q =>
     have HV : Hid (R0 = .inr q) := by
      show R0 = _
      rw [HR.out, HGa.out, if_pos hkk, hr]
      rfl
     rw [hr] at HSa
     clear HR HGa hr hkk
     go_wp2_with fail
     refine (HH.out ()).mono ?_
     rintro e w1 ⟨rfl, hb⟩
     have HY := hO (HW.out.later hb)
     have HFY : Hid (Fr wr w1 b v v) := Fr.below b v hb
     clear hb HH
     go_wp2_with fail
     refine (HP.out _ HY.out).mono ?_
     rintro e w2 ⟨rfl, h2, hf2⟩
     have HX := hO h2
     have HFX : Hid (Fr wr w2 b v v) := HFY.out.trans hf2
     clear h2 hf2 HY HFY HP
     go_wp2_with fail
     refine (HSa.out _ HX.out).mono ?_
     rintro e w3 ⟨rfl, hb⟩
     exact zae (P := Tryz.prog) (fn := Tryz.f89) rfl (by subst hv0; show PoR E z w0 b tv d W _ L R0 _ _; rw [HV.out]; exact ⟨rfl, hb⟩)
    | inl p =>
     obtain ⟨a2, ns2⟩ := p
     have hadv := zdH (i := a + 1) (by omega) (by omega) hr
     have hln := (zdI HE.out.rl (i := a + 1) (by omega) (by omega) hr).1 (by omega)
     have hia := hadv.2.2 (by omega)
     have hal := hadv.2.1
     have HV : Hid (R0 = ahd (M ++ (ns2 ++ [nd0 8])) (gN E 1 a2 d)) := by
      show R0 = _
      rw [HR.out, HGa.out, if_pos hkk, hr]
      show ahd M (ahd (ns2 ++ [nd0 8]) (gN E 1 a2 d)) = _
      rw [zfC]
     rw [hr] at HSa
     have HPu : Hid (∀ W v, RS E z w0 W b tv a2 d v (L ++ M ++ ns2) -> Calls Tryz.prog 119 #[.pointer (some ⟨b, 0, none⟩), .slice (some ⟨W.heap.size, 0, none⟩) 1 1] (W.alloc (.cells #[.int .i64 8, .int .i64 0, .string ⟨#[]⟩, .int .u64 0, .int .u64 0, .int .u64 0, .int .u64 0] 51)) fun e W' => e = .returned (.tuple #[]) /\ ∃ v', RS E z w0 W' b tv a2 d v' (L ++ (M ++ (ns2 ++ [nd0 8]))) /\ Fr W W' b v v') := fun W v h => by
      have := zfO h (nd0 8) (by rw [List.length_append]; omega)
      rw [List.append_assoc, List.append_assoc] at this
      exact this
     have hll : (L ++ (M ++ (ns2 ++ [nd0 8]))).length <= 10027010 * a2 := by
      rw [List.length_append] at hlm
      rw [List.length_append, List.length_append, List.length_append, List.length_singleton]
      omega
     clear HR HGa hr hkk hadv hln
     go_wp2_with fail
     refine (HH.out ()).mono ?_
     rintro e w1 ⟨rfl, hb⟩
     have HY := hO (HW.out.later hb)
     have HFY : Hid (Fr wr w1 b v v) := Fr.below b v hb
     clear hb HH
     go_wp2_with fail
     refine (HP.out _ HY.out).mono ?_
     rintro e w2 ⟨rfl, h2, hf2⟩
     have HX := hO h2
     have HFX : Hid (Fr wr w2 b v v) := HFY.out.trans hf2
     clear h2 hf2 HY HFY HP
     go_wp2_with fail
     refine (HSa.out _ HX.out).mono ?_
     rintro e w3 ⟨rfl, v3, h3, hf3⟩
     have H3 := hO h3
     have HF3 : Hid (Fr W w3 b v0 v3) := HFW.out.trans (HFX.out.trans hf3)
     clear h3 hf3 HX HSa HFX
     go_wp2_with fail
     refine (HPu.out _ _ H3.out).mono ?_
     rintro e w4 ⟨rfl, v4, h4, hf4⟩
     have H4 := hO h4
     have HF4 : Hid (Fr W w4 b v0 v4) := HF3.out.trans hf4
     clear h4 hf4 H3 HF3 HPu
     go_wp2_with fail
     go_roundw
     case rel => exact ⟨a2, v4, _, by omega, hal, hll, H4, HF4, HV⟩
     case measure => rw [HW.out.nx, H4.out.nx]; omega
   ·have HV : Hid (R0 = .inl (a, M)) := by
     show R0 = _
     rw [HR.out, HGa.out, if_neg hkk]
     show Sum.inl (a, M ++ []) = _
     rw [List.append_nil]
    have t1 : (t.kd == 7) = false := by rw [hk]; exact bF hkk
    clear HR HGa hkk ht hk HS
    go_wp2_with fail
    refine (HH.out ()).mono ?_
    rintro e w2 ⟨rfl, hb⟩
    have HY := hO (HW.out.later hb)
    have HFY : Hid (Fr wr w2 b v v) := Fr.below b v hb
    clear hb HH HW
    go_wp2_with fail
    go_end0
    subst hv0; show PoR E z w0 b tv d W _ L R0 _ _
    rw [HV.out]
    exact ⟨rfl, _, HY.out, HFW.out.trans HFY.out⟩
theorem zkm {E : PE} (hE : OkE E) {z : Nat} {w0 : World} {b : Nat} {tv : Value} {i d : Nat} (HS0 : ∀ a, i <= a -> a <= E.l.length -> Ct 145 E z w0 b tv a d (gN E 4 a d)) : Ct 118 E z w0 b tv i d (gN E 2 i d) := by
 intro W v L h hL
 have hi := h.hi
 have hlen := hE.len
 have HS : Hid (∀ a, i <= a -> a <= E.l.length -> Ct 145 E z w0 b tv a d (gN E 4 a d)) := HS0
 have H := hO h
 have HE := hO hE
 have HC : Hid (∀ _ : Unit, Calls Tryz.prog 145 #[.pointer (some ⟨b, 0, none⟩)] W fun e W' => PoR E z w0 b tv d W v L (gN E 4 i d) e W') := fun _ => HS0 i (Nat.le_refl _) hi W v L h hL
 have HG := hO (g2 E i d hi)
 clear h hE HS0
 cases hr : gN E 4 i d with
 | inr q =>
  rw [hr] at HC HG
  have HV : Hid (gN E 2 i d = .inr q) := HG.out
  rw [HV.out]
  clear HG hr HS
  go_enter Tryz.func118, Tryz.ntmps118
  go_wp2_with fail
  refine (HC.out ()).mono ?_
  rintro e w1 ⟨rfl, hb⟩
  exact zae rfl ⟨rfl, hb⟩
 | inl p =>
  obtain ⟨a, ns⟩ := p
  rw [hr] at HC HG
  have hadv := zdH hi (by omega) hr
  have hlenN := (zdI HE.out.rl hi (by omega) hr).1 (by omega)
  have HV : Hid (gN E 2 i d = ahd ns (gN E 3 a d)) := HG.out
  generalize gN E 2 i d = R0 at *
  have hia := hadv.2.2 (by omega)
  have hal := hadv.2.1
  clear HG hr hadv
  go_enter Tryz.func118, Tryz.ntmps118
  go_wp2_with fail
  refine (HC.out ()).mono ?_
  rintro e w1 ⟨rfl, v1, h1, hf1⟩
  have H1 := hO h1
  have HF1 : Hid (Fr W w1 b v v1) := hf1
  obtain ⟨v0, hv0⟩ : ∃ u, u = v := ⟨_, rfl⟩
  rw [<- hv0] at HF1
  clear HC h1 hf1
  go_wp2_with fail
  go_loopw [4] (fun _ wr => ∃ (a : Nat) (v : Value) (M : List Nd), i < a /\ a <= E.l.length /\ (L ++ M).length <= 10027010 * a /\ Hid (RS E z w0 wr b tv a d v (L ++ M)) /\ Hid (Fr W wr b v0 v) /\ Hid (R0 = ahd M (gN E 3 a d))) (fun _ wr => E.l.length - nxt b wr)
  case atStart => exact ⟨a, v1, ns, hia, hal, by rw [List.length_append]; omega, H1, HF1, HV⟩
  case round =>
   obtain ⟨a, v, M, ha1, ha2, hlm, HW, HFW, HR⟩ := hrel
   clear H1 HF1 HV hia hal hlenN
   have HGa := hO (g3 E a d ha2)
   have hz := HE.out.z
   have HH : Hid (∀ _ : Unit, Calls Tryz.prog 146 #[.pointer (some ⟨b, 0, none⟩)] wr fun e W' => e = .returned (.bool (bgn E a)) /\ Below wr.heap.size wr W') := fun _ => zfE HW.out hz
   by_cases hkk : bgn E a = true
   ·have hlt := zcD hkk
    rw [hkk] at HH
    have HSa : Hid (∀ W, RS E z w0 W b tv (a) d v (L ++ M) -> Calls Tryz.prog 145 #[.pointer (some ⟨b, 0, none⟩)] W fun e W' => PoR E z w0 b tv d W v (L ++ M) (gN E 4 (a) d) e W') := fun W h => HS.out (a) (by omega) (by omega) W v _ h (by omega)
    cases hr : gN E 4 (a) d with
    | inr q =>
     have HV : Hid (R0 = .inr q) := by
      show R0 = _
      rw [HR.out, HGa.out, if_pos hkk, hr]
      rfl
     rw [hr] at HSa
     clear HR HGa hr hkk
     go_wp2_with fail
     refine (HH.out ()).mono ?_
     rintro e w1 ⟨rfl, hb⟩
     have HX := hO (HW.out.later hb)
     have HFX : Hid (Fr wr w1 b v v) := Fr.below b v hb
     clear hb HH
     go_wp2_with fail
     refine (HSa.out _ HX.out).mono ?_
     rintro e w3 ⟨rfl, hb⟩
     exact zae (P := Tryz.prog) (fn := Tryz.f118) rfl (by subst hv0; show PoR E z w0 b tv d W _ L R0 _ _; rw [HV.out]; exact ⟨rfl, hb⟩)
    | inl p =>
     obtain ⟨a2, ns2⟩ := p
     have hadv := zdH (i := a) (by omega) (by omega) hr
     have hln := (zdI HE.out.rl (i := a) (by omega) (by omega) hr).1 (by omega)
     have hia := hadv.2.2 (by omega)
     have hal := hadv.2.1
     have HV : Hid (R0 = ahd (M ++ (ns2 ++ [nd0 7])) (gN E 3 a2 d)) := by
      show R0 = _
      rw [HR.out, HGa.out, if_pos hkk, hr]
      show ahd M (ahd (ns2 ++ [nd0 7]) (gN E 3 a2 d)) = _
      rw [zfC]
     rw [hr] at HSa
     have HPu : Hid (∀ W v, RS E z w0 W b tv a2 d v (L ++ M ++ ns2) -> Calls Tryz.prog 119 #[.pointer (some ⟨b, 0, none⟩), .slice (some ⟨W.heap.size, 0, none⟩) 1 1] (W.alloc (.cells #[.int .i64 7, .int .i64 0, .string ⟨#[]⟩, .int .u64 0, .int .u64 0, .int .u64 0, .int .u64 0] 51)) fun e W' => e = .returned (.tuple #[]) /\ ∃ v', RS E z w0 W' b tv a2 d v' (L ++ (M ++ (ns2 ++ [nd0 7]))) /\ Fr W W' b v v') := fun W v h => by
      have := zfO h (nd0 7) (by rw [List.length_append]; omega)
      rw [List.append_assoc, List.append_assoc] at this
      exact this
     have hll : (L ++ (M ++ (ns2 ++ [nd0 7]))).length <= 10027010 * a2 := by
      rw [List.length_append] at hlm
      rw [List.length_append, List.length_append, List.length_append, List.length_singleton]
      omega
     clear HR HGa hr hkk hadv hln
     go_wp2_with fail
     refine (HH.out ()).mono ?_
     rintro e w1 ⟨rfl, hb⟩
     have HX := hO (HW.out.later hb)
     have HFX : Hid (Fr wr w1 b v v) := Fr.below b v hb
     clear hb HH
     go_wp2_with fail
     refine (HSa.out _ HX.out).mono ?_
     rintro e w3 ⟨rfl, v3, h3, hf3⟩
     have H3 := hO h3
     have HF3 : Hid (Fr W w3 b v0 v3) := HFW.out.trans (HFX.out.trans hf3)
     clear h3 hf3 HX HSa HFX
     go_wp2_with fail
     refine (HPu.out _ _ H3.out).mono ?_
     rintro e w4 ⟨rfl, v4, h4, hf4⟩
     have H4 := hO h4
     have HF4 : Hid (Fr W w4 b v0 v4) := HF3.out.trans hf4
     clear h4 hf4 H3 HF3 HPu
     go_wp2_with fail
     go_roundw
     case rel => exact ⟨a2, v4, _, by omega, hal, hll, H4, HF4, HV⟩
     case measure => rw [HW.out.nx, H4.out.nx]; omega
   ·have HV : Hid (R0 = .inl (a, M)) := by
     show R0 = _
     rw [HR.out, HGa.out, if_neg hkk]
     show Sum.inl (a, M ++ []) = _
     rw [List.append_nil]
    rw [Bool.eq_false_iff.2 hkk] at HH
    clear HR HGa hkk HS
    go_wp2_with fail
    refine (HH.out ()).mono ?_
    rintro e w2 ⟨rfl, hb⟩
    have HY := hO (HW.out.later hb)
    have HFY : Hid (Fr wr w2 b v v) := Fr.below b v hb
    clear hb HH HW
    go_wp2_with fail
    go_end0
    subst hv0; show PoR E z w0 b tv d W _ L R0 _ _
    rw [HV.out]
    exact ⟨rfl, _, HY.out, HFW.out.trans HFY.out⟩
def rW (E : PE) (i d : Nat) (c : Int) : PR := if 240 <= d then .inr (i, 4) else bnd (gN E 0 (i + 1) (d + 1)) fun a ms => if kdA E a = c then .inl (a + 1, ms) else .inr (a, 60)
def rA (E : PE) (i d : Nat) (op : Int) : PR := if 240 <= d then .inr (i, 4) else bnd (gN E 4 (i + 1) (d + 1)) fun a ns => .inl (a, ns ++ [nd0 op])
theorem zgD {E : PE} (hE : OkE E) {z : Nat} {w0 : World} {b : Nat} {tv : Value} {i d : Nat} (op : Int) (hlt : i < E.l.length) (HP0 : Ct 145 E z w0 b tv (i + 1) (d + 1) (gN E 4 (i + 1) (d + 1))) (W : World) (v : Value) (L : List Nd) (h : RS E z w0 W b tv i d v L) (hL : L.length <= 10027010 * i) :
  Calls Tryz.prog 162 #[.pointer (some ⟨b, 0, none⟩), .int .i64 op] W fun e W' => PoR E z w0 b tv d W v L (rA E i d op) e W' := by
 have hlen := hE.len
 have hz := hE.z
 have H := hO h
 have HE := hO hE
 unfold rA
 by_cases hd : 240 <= d
 ·rw [if_pos hd]
  have HN : Hid (∀ _ : Unit, Calls Tryz.prog 184 #[.pointer (some ⟨b, 0, none⟩)] W fun e W' => e = pnc (plA E z i) 4 /\ Below w0.heap.size w0 W') := fun _ => zib h hd
  clear h hd HP0 hE
  go_enter Tryz.func162, Tryz.ntmps162
  go_wp2_with fail
  refine (HN.out ()).mono ?_
  rintro e w1 ⟨rfl, hb⟩
  exact zae rfl ⟨rfl, hb⟩
 ·rw [if_neg hd]
  have HN : Hid (∀ _ : Unit, Calls Tryz.prog 184 #[.pointer (some ⟨b, 0, none⟩)] W fun e W' => e = .returned (.tuple #[]) /\ RS E z w0 W' b tv (i + 1) (d + 1) v L /\ Fr W W' b v v) := fun _ => zia h hlt hd hz
  have HP : Hid (∀ W1, RS E z w0 W1 b tv (i + 1) (d + 1) v L -> Calls Tryz.prog 145 #[.pointer (some ⟨b, 0, none⟩)] W1 fun e W' => PoR E z w0 b tv (d + 1) W1 v L (gN E 4 (i + 1) (d + 1)) e W') := fun W1 h1 => HP0 W1 v L h1 (by omega)
  cases hr : gN E 4 (i + 1) (d + 1) with
  | inr q =>
   rw [hr] at HP
   show Calls Tryz.prog 162 _ _ fun e W' => PoR E z w0 b tv d W v L (.inr q) e W'
   clear h hd HP0 hE hr
   go_enter Tryz.func162, Tryz.ntmps162
   go_wp2_with fail
   refine (HN.out ()).mono ?_
   rintro e w1 ⟨rfl, h1, hf1⟩
   have H1 := hO h1
   clear h1 hf1 HN
   go_wp2_with fail
   refine (HP.out _ H1.out).mono ?_
   rintro e w2 ⟨rfl, hb⟩
   exact zae rfl ⟨rfl, hb⟩
  | inl p =>
   obtain ⟨a, ns⟩ := p
   rw [hr] at HP
   show Calls Tryz.prog 162 _ _ fun e W' => PoR E z w0 b tv d W v L (.inl (a, ns ++ [nd0 op])) e W'
   have hadv := zdH (i := i + 1) (by omega) (by omega) hr
   have hln := (zdI HE.out.rl (i := i + 1) (by omega) (by omega) hr).1 (by omega)
   have hal := hadv.2.1
   have HLv : Hid (∀ W v, RS E z w0 W b tv a (d + 1) v (L ++ ns) -> Calls Tryz.prog 185 #[.pointer (some ⟨b, 0, none⟩)] W fun e W' => e = .returned (.tuple #[]) /\ RS E z w0 W' b tv a d v (L ++ ns) /\ Fr W W' b v v) := fun W v h => zgy h
   have HPu : Hid (∀ W v, RS E z w0 W b tv a d v (L ++ ns) -> Calls Tryz.prog 119 #[.pointer (some ⟨b, 0, none⟩), .slice (some ⟨W.heap.size, 0, none⟩) 1 1] (W.alloc (.cells #[.int .i64 op, .int .i64 0, .string ⟨#[]⟩, .int .u64 0, .int .u64 0, .int .u64 0, .int .u64 0] 51)) fun e W' => e = .returned (.tuple #[]) /\ ∃ v', RS E z w0 W' b tv a d v' ((L ++ ns) ++ [⟨op, 0, ⟨#[]⟩, 0, 0, 0, 0⟩]) /\ Fr W W' b v v') := fun W v h => zfO h ⟨op, 0, ⟨#[]⟩, 0, 0, 0, 0⟩ (by rw [List.length_append]; omega)
   clear h hd HP0 hE hr hadv hln
   go_enter Tryz.func162, Tryz.ntmps162
   go_wp2_with fail
   refine (HN.out ()).mono ?_
   rintro e w1 ⟨rfl, h1, hf1⟩
   have H1 := hO h1
   have HF1 : Hid (Fr W w1 b v v) := hf1
   clear h1 hf1 HN
   go_wp2_with fail
   refine (HP.out _ H1.out).mono ?_
   rintro e w2 ⟨rfl, v2, h2, hf2⟩
   have H2 := hO h2
   have HF2 : Hid (Fr W w2 b v v2) := HF1.out.trans hf2
   clear h2 hf2 HP H1 HF1
   go_wp2_with fail
   refine (HLv.out _ _ H2.out).mono ?_
   rintro e w3 ⟨rfl, h3, hf3⟩
   have H3 := hO h3
   have HF3 : Hid (Fr W w3 b v v2) := HF2.out.trans hf3
   clear h3 hf3 HLv H2 HF2
   go_wp2_with fail
   refine (HPu.out _ _ H3.out).mono ?_
   rintro e w4 ⟨rfl, v4, h4, hf4⟩
   rw [List.append_assoc] at h4
   have H4 : Hid (∃ v', RS E z w0 w4 b tv a d v' (L ++ (ns ++ [nd0 op])) /\ Fr W w4 b v v') := ⟨v4, h4, HF3.out.trans hf4⟩
   clear h4 hf4 HPu H3 HF3
   go_wp2_with fail
   go_end0
   exact ⟨rfl, H4.out⟩
theorem zcj {E : PE} (hE : OkE E) {z : Nat} {w0 : World} {b : Nat} {tv : Value} {i d : Nat} (c : Int) (hc : ¬ c = 0) (hlt : i < E.l.length) (HX0 : Ct 89 E z w0 b tv (i + 1) (d + 1) (gN E 0 (i + 1) (d + 1))) (W : World) (v : Value) (L : List Nd) (h : RS E z w0 W b tv i d v L) (hL : L.length <= 10027010 * i) :
  Calls Tryz.prog 201 #[.pointer (some ⟨b, 0, none⟩), .int .i64 c] W fun e W' => PoR E z w0 b tv d W v L (rW E i d c) e W' := by
 have hlen := hE.len
 have hz := hE.z
 have H := hO h
 have HE := hO hE
 unfold rW
 by_cases hd : 240 <= d
 ·rw [if_pos hd]
  have HN : Hid (∀ _ : Unit, Calls Tryz.prog 184 #[.pointer (some ⟨b, 0, none⟩)] W fun e W' => e = pnc (plA E z i) 4 /\ Below w0.heap.size w0 W') := fun _ => zib h hd
  clear h hd HX0 hE
  go_enter Tryz.func201, Tryz.ntmps201
  go_wp2_with fail
  refine (HN.out ()).mono ?_
  rintro e w1 ⟨rfl, hb⟩
  exact zae rfl ⟨rfl, hb⟩
 ·rw [if_neg hd]
  have HN : Hid (∀ _ : Unit, Calls Tryz.prog 184 #[.pointer (some ⟨b, 0, none⟩)] W fun e W' => e = .returned (.tuple #[]) /\ RS E z w0 W' b tv (i + 1) (d + 1) v L /\ Fr W W' b v v) := fun _ => zia h hlt hd hz
  have HP : Hid (∀ W1, RS E z w0 W1 b tv (i + 1) (d + 1) v L -> Calls Tryz.prog 89 #[.pointer (some ⟨b, 0, none⟩)] W1 fun e W' => PoR E z w0 b tv (d + 1) W1 v L (gN E 0 (i + 1) (d + 1)) e W') := fun W1 h1 => HX0 W1 v L h1 (by omega)
  cases hr : gN E 0 (i + 1) (d + 1) with
  | inr q =>
   rw [hr] at HP
   show Calls Tryz.prog 201 _ _ fun e W' => PoR E z w0 b tv d W v L (.inr q) e W'
   clear h hd HX0 hE hr hc
   go_enter Tryz.func201, Tryz.ntmps201
   go_wp2_with fail
   refine (HN.out ()).mono ?_
   rintro e w1 ⟨rfl, h1, hf1⟩
   have H1 := hO h1
   clear h1 hf1 HN
   go_wp2_with fail
   refine (HP.out _ H1.out).mono ?_
   rintro e w2 ⟨rfl, hb⟩
   exact zae rfl ⟨rfl, hb⟩
  | inl p =>
   obtain ⟨a, ns⟩ := p
   rw [hr] at HP
   have hadv := zdH (i := i + 1) (by omega) (by omega) hr
   have hal := hadv.2.1
   by_cases hk : kdA E a = c
   ·have hal2 := zbl (E := E) (i := a) (by omega)
    have HPs : Hid (∀ W v, RS E z w0 W b tv a (d + 1) v (L ++ ns) -> Calls Tryz.prog 90 #[.pointer (some ⟨b, 0, none⟩), .int .i64 c] W fun e W' => e = .returned (.tuple #[]) /\ RS E z w0 W' b tv (a + 1) (d + 1) v (L ++ ns) /\ Fr W W' b v v) := fun W v h => by
     have := zcs h hal2 hz
     rw [hk] at this
     exact this
    have HLv : Hid (∀ W v, RS E z w0 W b tv (a + 1) (d + 1) v (L ++ ns) -> Calls Tryz.prog 185 #[.pointer (some ⟨b, 0, none⟩)] W fun e W' => e = .returned (.tuple #[]) /\ RS E z w0 W' b tv (a + 1) d v (L ++ ns) /\ Fr W W' b v v) := fun W v h => zgy h
    have HV : Hid ((if kdA E a = c then (.inl (a + 1, ns) : PR) else .inr (a, 60)) = .inl (a + 1, ns)) := if_pos hk
    show Calls Tryz.prog 201 _ _ fun e W' => PoR E z w0 b tv d W v L (if kdA E a = c then .inl (a + 1, ns) else .inr (a, 60)) e W'
    rw [HV.out]
    clear h hd HX0 hE hr hadv hk HV hc
    go_enter Tryz.func201, Tryz.ntmps201
    go_wp2_with fail
    refine (HN.out ()).mono ?_
    rintro e w1 ⟨rfl, h1, hf1⟩
    have H1 := hO h1
    have HF1 : Hid (Fr W w1 b v v) := hf1
    clear h1 hf1 HN
    go_wp2_with fail
    refine (HP.out _ H1.out).mono ?_
    rintro e w2 ⟨rfl, v2, h2, hf2⟩
    have H2 := hO h2
    have HF2 : Hid (Fr W w2 b v v2) := HF1.out.trans hf2
    clear h2 hf2 HP H1 HF1
    go_wp2_with fail
    refine (HPs.out _ _ H2.out).mono ?_
    rintro e w3 ⟨rfl, h3, hf3⟩
    have H3 := hO h3
    have HF3 : Hid (Fr W w3 b v v2) := HF2.out.trans hf3
    clear h3 hf3 HPs H2 HF2
    go_wp2_with fail
    refine (HLv.out _ _ H3.out).mono ?_
    rintro e w4 ⟨rfl, h4, hf4⟩
    have H4 : Hid (∃ v', RS E z w0 w4 b tv (a + 1) d v' (L ++ ns) /\ Fr W w4 b v v') := ⟨v2, h4, HF3.out.trans hf4⟩
    clear h4 hf4 HLv H3 HF3
    go_wp2_with fail
    go_end0
    exact ⟨rfl, H4.out⟩
   ·have HPs : Hid (∀ W v, RS E z w0 W b tv a (d + 1) v (L ++ ns) -> Calls Tryz.prog 90 #[.pointer (some ⟨b, 0, none⟩), .int .i64 c] W fun e W' => e = pnc (plA E z a) 60 /\ Below w0.heap.size w0 W') := fun W v h => zpl h c hk
    have HV : Hid ((if kdA E a = c then (.inl (a + 1, ns) : PR) else .inr (a, 60)) = .inr (a, 60)) := if_neg hk
    show Calls Tryz.prog 201 _ _ fun e W' => PoR E z w0 b tv d W v L (if kdA E a = c then .inl (a + 1, ns) else .inr (a, 60)) e W'
    rw [HV.out]
    clear h hd HX0 hE hr hadv hk HV hc
    go_enter Tryz.func201, Tryz.ntmps201
    go_wp2_with fail
    refine (HN.out ()).mono ?_
    rintro e w1 ⟨rfl, h1, hf1⟩
    have H1 := hO h1
    clear h1 hf1 HN
    go_wp2_with fail
    refine (HP.out _ H1.out).mono ?_
    rintro e w2 ⟨rfl, v2, h2, hf2⟩
    have H2 := hO h2
    clear h2 hf2 HP H1
    go_wp2_with fail
    refine (HPs.out _ _ H2.out).mono ?_
    rintro e w3 ⟨rfl, hb⟩
    exact zae rfl ⟨rfl, hb⟩
def gS (E : PE) (i d : Nat) : PR := if bgP E i = true then bnd (gN E 5 i d) fun a ns => ahd ns (gN E 6 a d) else .inr (i, 60)
theorem zkn {E : PE} (hE : OkE E) {z : Nat} {w0 : World} {b : Nat} {tv : Value} {i d : Nat} (HP0 : i < E.l.length -> Ct 145 E z w0 b tv (i + 1) (d + 1) (gN E 4 (i + 1) (d + 1))) (HS0 : Ct 163 E z w0 b tv i d (gS E i d)) : Ct 145 E z w0 b tv i d (gN E 4 i d) := by
 intro W v L h hL
 obtain ⟨t, ht, hk, _, _⟩ := zaw E z h.hi
 have HH : Hid (∀ _ : Unit, Calls Tryz.prog 62 #[.pointer (some ⟨b, 0, none⟩)] W fun e W' => e = .returned (.agg #[.int .i64 t.kd, .int .i64 t.nn, .int .i64 t.fr, .int .i64 t.en, .string t.tx, .int .u64 t.s0, .int .u64 t.s1, .int .u64 t.s2, .int .u64 t.s3]) /\ Below W.heap.size W W') := fun _ => zaC h t ht
 have H := hO h
 have fl0 := zlX
 have HG := hO (g4 E i d h.hi)
 by_cases c8 : kdA E i = 8
 ·have hlt := zbl (E := E) (i := i) (by omega)
  have HA : Hid (∀ W1, RS E z w0 W1 b tv i d v L -> Calls Tryz.prog 162 #[.pointer (some ⟨b, 0, none⟩), .int .i64 12] W1 fun e W' => PoR E z w0 b tv d W1 v L (rA E i d 12) e W') := fun W1 h1 => zgD hE 12 hlt (HP0 hlt) W1 v L h1 hL
  have HV : Hid (gN E 4 i d = rA E i d 12) := by
   show gN E 4 i d = _
   rw [HG.out, if_pos (by unfold bgn; rw [c8]; rfl), if_pos (.inl c8), show (if kdA E i = 8 then (12 : Int) else 13) = 12 from if_pos c8]
   rfl
  rw [HV.out]
  generalize rA E i d 12 = r at *
  rw [hk.trans c8] at HH
  clear h ht hk c8 HG HV HP0 HS0 hE
  go_enter Tryz.func145, Tryz.ntmps145
  go_wp2_with fail
  refine (HH.out ()).mono ?_
  rintro e w1 ⟨rfl, hb⟩
  have H1 := hO (H.out.later hb)
  have HF1 : Hid (Fr W w1 b v v) := Fr.below b v hb
  clear hb HH H
  go_wp2_with fail
  refine (HA.out _ H1.out).mono ?_
  rintro e w2 hp
  cases r with
  | inr q =>
   obtain ⟨rfl, hb⟩ := hp
   exact zae rfl ⟨rfl, hb⟩
  | inl p =>
   obtain ⟨rfl, v2, h2, hf2⟩ := hp
   have H2 : Hid (∃ v', RS E z w0 w2 b tv p.1 d v' (L ++ p.2) /\ Fr W w2 b v v') := ⟨v2, h2, HF1.out.trans hf2⟩
   clear h2 hf2
   go_wp2_with fail
   go_end0
   exact ⟨rfl, H2.out⟩
 by_cases c9 : kdA E i = 9
 ·have hlt := zbl (E := E) (i := i) (by omega)
  have HA : Hid (∀ W1, RS E z w0 W1 b tv i d v L -> Calls Tryz.prog 162 #[.pointer (some ⟨b, 0, none⟩), .int .i64 13] W1 fun e W' => PoR E z w0 b tv d W1 v L (rA E i d 13) e W') := fun W1 h1 => zgD hE 13 hlt (HP0 hlt) W1 v L h1 hL
  have HV : Hid (gN E 4 i d = rA E i d 13) := by
   show gN E 4 i d = _
   rw [HG.out, if_pos (by unfold bgn; rw [c9]; rfl), if_pos (.inr c9), show (if kdA E i = 8 then (12 : Int) else 13) = 13 from if_neg c8]
   rfl
  rw [HV.out]
  generalize rA E i d 13 = r at *
  rw [hk.trans c9] at HH
  clear h ht hk c9 c8 HG HV HP0 HS0 hE
  go_enter Tryz.func145, Tryz.ntmps145
  go_wp2_with fail
  refine (HH.out ()).mono ?_
  rintro e w1 ⟨rfl, hb⟩
  have H1 := hO (H.out.later hb)
  have HF1 : Hid (Fr W w1 b v v) := Fr.below b v hb
  clear hb HH H
  go_wp2_with fail
  refine (HA.out _ H1.out).mono ?_
  rintro e w2 hp
  cases r with
  | inr q =>
   obtain ⟨rfl, hb⟩ := hp
   exact zae rfl ⟨rfl, hb⟩
  | inl p =>
   obtain ⟨rfl, v2, h2, hf2⟩ := hp
   have H2 : Hid (∃ v', RS E z w0 w2 b tv p.1 d v' (L ++ p.2) /\ Fr W w2 b v v') := ⟨v2, h2, HF1.out.trans hf2⟩
   clear h2 hf2
   go_wp2_with fail
   go_end0
   exact ⟨rfl, H2.out⟩
 have HS : Hid (∀ W1, RS E z w0 W1 b tv i d v L -> Calls Tryz.prog 163 #[.pointer (some ⟨b, 0, none⟩)] W1 fun e W' => PoR E z w0 b tv d W1 v L (gS E i d) e W') := fun W1 h1 => HS0 W1 v L h1 hL
 have HV : Hid (gN E 4 i d = gS E i d) := by
  show gN E 4 i d = _
  have hb : bgn E i = bgP E i := by rw [zj6, bF c8, bF c9]; rfl
  rw [HG.out, hb, if_neg (by omega : ¬ (kdA E i = 8 ∨ kdA E i = 9))]
  rfl
 rw [HV.out]
 have v8 : (t.kd == 8) = false := by rw [hk]; exact bF c8
 have v9 : (t.kd == 9) = false := by rw [hk]; exact bF c9
 generalize gS E i d = r at *
 clear h ht hk c8 c9 HG HV HP0 HS0 hE
 go_enter Tryz.func145, Tryz.ntmps145
 go_wp2_with fail
 refine (HH.out ()).mono ?_
 rintro e w1 ⟨rfl, hb⟩
 have H1 := hO (H.out.later hb)
 have HF1 : Hid (Fr W w1 b v v) := Fr.below b v hb
 clear hb HH H
 go_wp2_with fail
 refine (HS.out _ H1.out).mono ?_
 rintro e w2 hp
 cases r with
 | inr q =>
  obtain ⟨rfl, hb⟩ := hp
  exact zae rfl ⟨rfl, hb⟩
 | inl p =>
  obtain ⟨rfl, v2, h2, hf2⟩ := hp
  have H2 : Hid (∃ v', RS E z w0 w2 b tv p.1 d v' (L ++ p.2) /\ Fr W w2 b v v') := ⟨v2, h2, HF1.out.trans hf2⟩
  clear h2 hf2
  go_wp2_with fail
  go_end0
  exact ⟨rfl, H2.out⟩
end Go.Proofs.YtnpifgcgjgddoaaGreatDoor.N
