/- DERIVED. Plain mathematics and walks, laid together (6). -/
import Derived.LoopN
import Derived.Test.YtnpifgcgjgddoaaGreatDoorPb05
set_option maxRecDepth 100000
set_option maxHeartbeats 8000000
namespace Go.Proofs.YtnpifgcgjgddoaaGreatDoor.R
open Go.RowKit
structure VB (W : World) : Prop where
 lt : 6 < W.heap.size
 c0 : W.cell? ⟨6, 0, none⟩ = some (.int .i32 0)
 c1 : W.cell? ⟨6, 1, none⟩ = some (.int .i32 127)
 c2 : W.cell? ⟨6, 2, none⟩ = some (.int .i32 128)
 c3 : W.cell? ⟨6, 3, none⟩ = some (.int .i32 2047)
 c4 : W.cell? ⟨6, 4, none⟩ = some (.int .i32 2048)
 c5 : W.cell? ⟨6, 5, none⟩ = some (.int .i32 55295)
 c6 : W.cell? ⟨6, 6, none⟩ = some (.int .i32 57344)
 c7 : W.cell? ⟨6, 7, none⟩ = some (.int .i32 65535)
 c8 : W.cell? ⟨6, 8, none⟩ = some (.int .i32 65536)
 c9 : W.cell? ⟨6, 9, none⟩ = some (.int .i32 1114111)
theorem VB.below {B : Nat} {W W' : World} (h : VB W) (hb : Below B W W') (hB : 6 < B) : VB W' := by
 have key : ∀ k, W'.cell? ⟨6, k, none⟩ = W.cell? ⟨6, k, none⟩ := fun k => hb.cell (p := ⟨6, k, none⟩) hB
 exact ⟨Nat.lt_of_lt_of_le h.lt hb.size, (key 0).trans h.c0, (key 1).trans h.c1, (key 2).trans h.c2, (key 3).trans h.c3, (key 4).trans h.c4, (key 5).trans h.c5, (key 6).trans h.c6, (key 7).trans h.c7, (key 8).trans h.c8, (key 9).trans h.c9⟩
def ShV (w w' : World) (lo hi : Int) (e : Ending) : Prop :=
 if bdB lo = true /\ bdB hi = true then
  (if lo <= hi then ∃ v xs, e = .returned (.tuple #[v, .int .i64 0]) /\ RR w' w.heap.size v (zdj lo hi) xs else e = .returned (.tuple #[.slice none 0 0, .int .i64 1]))
 else e = .returned (.tuple #[.slice none 0 0, .int .i64 30])
def zpd : Value := .agg #[.int .i32 0, .int .i32 127, .int .i32 128, .int .i32 2047, .int .i32 2048, .int .i32 55295, .int .i32 57344, .int .i32 65535, .int .i32 65536, .int .i32 1114111]
theorem zha (k : Nat) (b : Int × Int) (h : blks[k]? = some b) (W : World) : (Instr.index 219 zpd (.int .i64 (k : Int))).run Tryz.prog W = .ok (.agg #[.int .i32 b.1, .int .i32 b.2]) W := by
 match k, h with
 | 0, h => cases h; simp [zpd, Instr.index, run_underlying Tryz.underlying219, asIntOf, go_sem]
 | 1, h => cases h; simp [zpd, Instr.index, run_underlying Tryz.underlying219, asIntOf, go_sem]
 | 2, h => cases h; simp [zpd, Instr.index, run_underlying Tryz.underlying219, asIntOf, go_sem]
 | 3, h => cases h; simp [zpd, Instr.index, run_underlying Tryz.underlying219, asIntOf, go_sem]
 | 4, h => cases h; simp [zpd, Instr.index, run_underlying Tryz.underlying219, asIntOf, go_sem]
structure AtB (w wr : World) (v : Value) (ss : List za8) : Prop where
 r : ∃ xs, RR wr w.heap.size v ss xs
 b : Below w.heap.size w wr
theorem zkd (lo hi : Int) (h0 : 0 <= lo) (h1 : lo <= hi) (h2 : hi <= 1114111) (w : World) (hv : VB w) :
  Calls Tryz.prog 211 #[.int .i64 lo, .int .i64 hi] w fun e w' => (∃ v xs, e = .returned (.tuple #[v, .int .i64 0]) /\ RR w' w.heap.size v (zdj lo hi) xs) /\ Below w.heap.size w w' := by
 have HB1 : Hid (∀ w, Calls Tryz.prog 213 #[.int .i64 lo] w fun e w' => e = .returned (.bool true) /\ w' = w) := fun w => by
  have e := zb6 lo w
  rwa [zeP ⟨h0, by omega⟩] at e
 have HB2 : Hid (∀ w, Calls Tryz.prog 213 #[.int .i64 hi] w fun e w' => e = .returned (.bool true) /\ w' = w) := fun w => by
  have e := zb6 hi w
  rwa [zeP ⟨by omega, h2⟩] at e
 have HV := hO hv
 obtain ⟨_, c0, c1, c2, c3, c4, c5, c6, c7, c8, c9⟩ := hv
 have hnl : decide (hi < lo) = false := decide_eq_false (by omega)
 go_enter Tryz.func211, Tryz.ntmps211
 go_wp2_with fail
 refine (HB1.out _).mono ?_
 rintro e w' ⟨rfl, rfl⟩
 go_wp2_with fail
 refine (HB2.out _).mono ?_
 rintro e w' ⟨rfl, rfl⟩
 go_wp2_with fail
 clear c0 c1 c2 c3 c4 c5 c6 c7 c8 c9 HB1 HB2
 have hidx := fun k b h => zha k b h
 unfold zpd at hidx
 have HI := hO hidx
 clear hidx
 go_loopw [6, 22] (fun v t wr => ∃ k : Nat, k <= 5 /\ t = .int .i64 k /\ Hid (AtB w' wr v (zgU lo hi k))) (fun _ t _ => 6 - (intOf t).toNat)
 case atStart => exact ⟨0, by omega, by go_num, ⟨⟨[], RR.nil _ _⟩, Below.refl _ _⟩⟩
 case round =>
  obtain ⟨k, hk, rfl, HW⟩ := hrel
  by_cases hk5 : k < 5
  ·obtain ⟨b, hb⟩ : ∃ b, blks[k]? = some b := ⟨_, List.getElem?_eq_getElem (by show k < 5; exact hk5)⟩
   have hix := HI.out k b hb wr
   obtain ⟨hb0, hb1, hb2, hbB⟩ := zj8 hb
   have HT := hO (zj7 lo hi k b hb)
   have HLen := hO (zkb lo hi k b hb)
   have HO : Hid (zgk lo hi b = if max b.1 lo <= min b.2 hi then shs (max b.1 lo) (min b.2 hi) else []) := rfl
   have HBB := hO (hbB lo hi)
   obtain ⟨b1, b2⟩ := b
   dsimp only at *
   have hz5 : (k : Int) < 5 := by omega
   clear hbB hb
   have q1 : IntKind.i32.wrap lo = lo := by rw [IntKind.wrap_i32]; omega
   have q2 : IntKind.i32.wrap hi = hi := by rw [IntKind.wrap_i32]; omega
   by_cases hmm : max b1 lo <= min b2 hi
   ·have HT2 : Hid (zgU lo hi (k + 1) = zgU lo hi k ++ shs (max b1 lo) (min b2 hi)) := (by show _ = _; rw [HT.out, HO.out, if_pos hmm])
    have HA : Hid (AppS (max b1 lo) (min b2 hi)) := zbI _ _ _ (HBB.out hmm) (Nat.le_refl _)
    have HN : Hid ((zgU lo hi k).length + (min b2 hi - max b1 lo + 1).toNat <= 1114112) := (by have e := HLen.out; show _ <= _; omega)
    clear HT HO HBB HLen
    obtain ⟨⟨xs, hR⟩, hBw⟩ := HW.out
    have HR := hO hR
    have HBw := hO hBw
    clear hR hBw HW
    have HR2 : Hid (RR ((wr.alloc (.cells #[.int .i32 b1, .int .i32 b2] 218)).alloc (.cells #[.int .i32 (max b1 lo), .int .i32 (min b2 hi)] 218)) w'.heap.size u6 (zgU lo hi k) xs) := (HR.out.alloc _).alloc _
    have HB2 : Hid (Below w'.heap.size w' ((wr.alloc (.cells #[.int .i32 b1, .int .i32 b2] 218)).alloc (.cells #[.int .i32 (max b1 lo), .int .i32 (min b2 hi)] 218))) := (HBw.out.alloc HBw.out.size _).alloc (by simp; exact Nat.le_succ_of_le HBw.out.size) _
    go_wp2_with fail
    refine (HA.out _ _ _ _ _ HR2.out HB2.out.size HN.out).mono ?_
    rintro e w2 ⟨v2, xs2, rfl, hR3, hg3, _⟩
    have HW2 := (show Hid (AtB w' w2 v2 (zgU lo hi (k + 1))) from (by
     rw [HT2.out]
     exact ⟨⟨xs2, hR3⟩, HB2.out.grown hg3 HB2.out.size (fun j e => (HR.out.o.lt j e).1)⟩))
    clear hR3 hg3 HR HBw HR2 HB2 hix
    go_wp2
    go_roundw
    case rel => exact ⟨k + 1, by omega, by go_num, HW2⟩
    case measure => simp [intOf]; omega
   ·have HT2 : Hid (zgU lo hi (k + 1) = zgU lo hi k) := (by show _ = _; rw [HT.out, HO.out, if_neg hmm, List.append_nil])
    clear HT HO HBB HLen
    obtain ⟨⟨xs, hR⟩, hBw⟩ := HW.out
    have HW2 := (show Hid (AtB w' ((wr.alloc (.cells #[.int .i32 b1, .int .i32 b2] 218)).alloc (.cells #[.int .i32 (max b1 lo), .int .i32 (min b2 hi)] 218)) u6 (zgU lo hi (k + 1))) from (by
     rw [HT2.out]
     exact ⟨⟨xs, (hR.alloc _).alloc _⟩, (hBw.alloc hBw.size _).alloc (by simp; exact Nat.le_succ_of_le hBw.size) _⟩))
    clear hR hBw HW
    go_wp2
    go_roundw
    case rel => exact ⟨k + 1, by omega, by go_num, HW2⟩
    case measure => simp [intOf]; omega
  ·obtain rfl : k = 5 := by omega
   rw [zfy] at HW
   obtain ⟨⟨xs, hR⟩, hBw⟩ := HW.out
   go_wp2
   go_ret2
   exact ⟨⟨_, xs, rfl, hR⟩, hBw⟩
theorem zi5 (lo hi : Int) (w : World) (hv : VB w) :
  Calls Tryz.prog 211 #[.int .i64 lo, .int .i64 hi] w fun e w' => ShV w w' lo hi e /\ Below w.heap.size w w' := by
 have HB1 : Hid (∀ w, Calls Tryz.prog 213 #[.int .i64 lo] w fun e w' => e = .returned (.bool (bdB lo)) /\ w' = w) := fun w => zb6 lo w
 have HB2 : Hid (∀ w, Calls Tryz.prog 213 #[.int .i64 hi] w fun e w' => e = .returned (.bool (bdB hi)) /\ w' = w) := fun w => zb6 hi w
 by_cases h0 : 0 <= lo /\ lo <= 1114111
 ·by_cases h1 : 0 <= hi /\ hi <= 1114111
  ·by_cases h2 : lo <= hi
   ·refine (zkd lo hi h0.1 h2 h1.2 w hv).mono fun e w' ⟨h3, h4⟩ => ⟨?_, h4⟩
    unfold ShV
    rw [if_pos ⟨zeP h0, zeP h1⟩, if_pos h2]
    exact h3
   ·have HE := (show Hid (∀ w' e, e = .returned (.tuple #[.slice none 0 0, .int .i64 1]) -> ShV w w' lo hi e) from fun w' e he => by
     unfold ShV
     rw [if_pos ⟨zeP h0, zeP h1⟩, if_neg h2]
     exact he)
    rw [zeP h0] at HB1
    rw [zeP h1] at HB2
    have h3 : hi < lo := by omega
    clear h0 h1 h2 hv
    go_enter Tryz.func211, Tryz.ntmps211
    go_wp2_with fail
    refine (HB1.out _).mono ?_
    rintro e w' ⟨rfl, rfl⟩
    go_wp2_with fail
    refine (HB2.out _).mono ?_
    rintro e w' ⟨rfl, rfl⟩
    go_wp2
    go_ret2
    exact ⟨HE.out _ _ rfl, Below.refl _ _⟩
  ·have HE := (show Hid (∀ w' e, e = .returned (.tuple #[.slice none 0 0, .int .i64 30]) -> ShV w w' lo hi e) from fun w' e he => by
    unfold ShV
    rw [if_neg (by rw [zi2 h1]; simp)]
    exact he)
   rw [zeP h0] at HB1
   rw [zi2 h1] at HB2
   clear h0 h1 hv
   go_enter Tryz.func211, Tryz.ntmps211
   go_wp2_with fail
   refine (HB1.out _).mono ?_
   rintro e w' ⟨rfl, rfl⟩
   go_wp2_with fail
   refine (HB2.out _).mono ?_
   rintro e w' ⟨rfl, rfl⟩
   go_wp2
   go_ret2
   exact ⟨HE.out _ _ rfl, Below.refl _ _⟩
 ·have HE := (show Hid (∀ w' e, e = .returned (.tuple #[.slice none 0 0, .int .i64 30]) -> ShV w w' lo hi e) from fun w' e he => by
   unfold ShV
   rw [if_neg (by rw [zi2 h0]; simp)]
   exact he)
  rw [zi2 h0] at HB1
  clear h0 hv
  go_enter Tryz.func211, Tryz.ntmps211
  go_wp2_with fail
  refine (HB1.out _).mono ?_
  rintro e w' ⟨rfl, rfl⟩
  go_wp2
  go_ret2
  exact ⟨HE.out _ _ rfl, Below.refl _ _⟩
def SpL (W : World) (g off : Nat) (s : za8) : Prop := ∀ (j : Nat) p, s[j]? = some p -> W.cell? ⟨g, off + j * 2, none⟩ = some (.int .i64 p.1) /\ W.cell? ⟨g, off + j * 2 + 1, none⟩ = some (.int .i64 p.2)
theorem zpe (s : za8) (j : Nat) (p : Int × Int) (h : s[j]? = some p) : (spc s)[j * 2]? = some (.int .i64 p.1) /\ (spc s)[j * 2 + 1]? = some (.int .i64 p.2) := by
 induction s generalizing j with
 | nil => cases h
 | cons a s ih =>
  have e : spc (a :: s) = .int .i64 a.1 :: .int .i64 a.2 :: spc s := rfl
  rw [e]
  cases j with
  | zero => cases h; exact ⟨rfl, rfl⟩
  | succ j =>
   have h2 : s[j]? = some p := by simpa using h
   rw [show (j + 1) * 2 = j * 2 + 1 + 1 from by omega]
   exact ih j h2
theorem zpf {W : World} {B g n cap : Nat} {s : za8} (h : W.ownsRow B 152 2 (.slice (some ⟨g, 0, none⟩) n cap) s.length (spc s)) : SpL W g 0 s := fun j p hp => by
 have hc := h.cells (g := g) rfl
 obtain ⟨h1, h2⟩ := zpe s j p hp
 have c1 := hc _ _ h1
 have c2 := hc _ _ h2
 rw [Addr.add_lit] at c1 c2
 exact ⟨c1, by rw [Nat.add_assoc]; exact c2⟩
theorem RR.get {W : World} {B : Nat} {v : Value} {ss : List za8} {xs : List Value} (h : RR W B v ss xs) {i : Nat} {s : za8} (hs : ss[i]? = some s) :
  ∃ g cap gx cx, v = .slice (some ⟨g, 0, none⟩) ss.length cap /\ g < W.heap.size /\ xs[i]? = some (.slice (some ⟨gx, 0, none⟩) s.length cx) /\ W.cell? ⟨g, i, none⟩ = some (.slice (some ⟨gx, 0, none⟩) s.length cx) /\ gx < W.heap.size /\ SpL W gx 0 s := by
 have hi : i < ss.length := by
  by_cases q : i < ss.length
  ·exact q
  ·rw [List.getElem?_eq_none (by omega)] at hs; cases hs
 have hx : xs[i]? = some (xs[i]'(by rw [h.len]; exact hi)) := List.getElem?_eq_getElem (by rw [h.len]; exact hi)
 obtain ⟨h1, h2, _⟩ := h.each i _ s hx hs
 obtain ⟨g, cap, hv, _, hlt⟩ := h.o.form (by rw [h.len]; omega)
 obtain ⟨gx, hgx, _, hlt2⟩ := h.lt hx
 have hform : ∃ cx, xs[i]'(by rw [h.len]; exact hi) = .slice (some ⟨gx, 0, none⟩) s.length cx := by
  rcases h1.2 with ⟨q, _⟩ | ⟨g2, cx, cur, q, _⟩
  ·rw [q] at h2; exact absurd rfl h2
  ·rw [q] at hgx
   have e : g2 = gx := Option.some.inj hgx
   exact ⟨cx, by rw [q, e]⟩
 obtain ⟨cx, hq⟩ := hform
 rw [hq] at hx h1
 have hcell := h.o.cells (g := g) (by rw [hv]; rfl) i _ hx
 rw [Addr.add_lit, Nat.zero_add] at hcell
 exact ⟨g, cap, gx, cx, by rw [hv, h.len], hlt, hx, hcell, hlt2, zpf h1⟩
theorem zdk (w : World) (o : Obj) : (w.alloc o).heap.size = w.heap.size + 1 := by simp
abbrev Nd := Int × BitVec 256
def ndV (n : Nd) : List Value := [.int .i64 n.1, .int .i64 0, .string ⟨#[]⟩, .int .u64 (wd n.2 0), .int .u64 (wd n.2 1), .int .u64 (wd n.2 2), .int .u64 (wd n.2 3)]
def ndc (l : List Nd) : List Value := l.flatMap ndV
theorem zdD (a b : List Nd) : ndc (a ++ b) = ndc a ++ ndc b := List.flatMap_append
theorem zek (n : Nd) : ndc [n] = ndV n := by unfold ndc; rw [List.flatMap_cons, List.flatMap_nil, List.append_nil]
def ndI (s : za8) (i : Nat) : List Nd := match s[i]? with
 | some p => (5, spn p.1 p.2) :: (if 0 < i then [(7, 0#256)] else [])
 | none => []
def zd5 (s : za8) (k : Nat) : List Nd := (List.range k).flatMap (ndI s)
theorem zdl (s : za8) (k : Nat) : zd5 s (k + 1) = zd5 s k ++ ndI s k := by unfold zd5; rw [List.range_succ, List.flatMap_append]; simp
def ptI (ss : List za8) (i : Nat) : List Nd := match ss[i]? with
 | some s => zd5 s s.length ++ (if 0 < i then [(8, 0#256)] else [])
 | none => []
def zfA (ss : List za8) (k : Nat) : List Nd := (List.range k).flatMap (ptI ss)
theorem zdm (ss : List za8) (k : Nat) : zfA ss (k + 1) = zfA ss k ++ ptI ss k := by unfold zfA; rw [List.range_succ, List.flatMap_append]; simp
theorem zpg (s : za8) (i : Nat) : (ndI s i).length <= 2 := by
 unfold ndI
 split
 ·split <;> simp
 ·simp
theorem zfB (s : za8) (k : Nat) : (zd5 s k).length <= 2 * k := by
 induction k with
 | zero => simp [zd5]
 | succ k ih => rw [zdl, List.length_append]; have := zpg s k; omega
theorem zh7 (ss : List za8) (k : Nat) (h : ∀ s ∈ ss, s.length <= 4) : (zfA ss k).length <= 9 * k := by
 induction k with
 | zero => simp [zfA]
 | succ k ih =>
  rw [zdm, List.length_append]
  have : (ptI ss k).length <= 9 := by
   unfold ptI
   split
   ·next s hs =>
    have h1 := h s (List.mem_of_getElem? hs)
    have h2 := zfB s s.length
    rw [List.length_append]
    split <;> simp <;> omega
   ·simp
  omega
theorem Tryz.info80 : (Tryz.prog.info? 51).map (fun i => (i.zero, i.size, i.bytes)) = some (some (.agg #[.int .i64 0, .int .i64 0, .string ⟨#[]⟩, .int .u64 0, .int .u64 0, .int .u64 0, .int .u64 0]), 7, 64) := by kernel_rfl
abbrev ndA (op : Int) (x : BitVec 256) : Array Value := #[.int .i64 op, .int .i64 0, .string ⟨#[]⟩, .int .u64 (wd x 0), .int .u64 (wd x 1), .int .u64 (wd x 2), .int .u64 (wd x 3)]
abbrev ndZ (op : Int) : Array Value := #[.int .i64 op, .int .i64 0, .string ⟨#[]⟩, .int .u64 0, .int .u64 0, .int .u64 0, .int .u64 0]
theorem zgl (op : Int) : (ndZ op).toList = ndV (op, 0#256) := by unfold ndV; simp only [zah]
theorem zmH (w : World) (a : Obj) (cs : Array Value) : ∀ (j : Nat) u, cs.toList[j]? = some u -> ((w.alloc a).alloc (.cells cs 51)).cell? ((⟨w.heap.size + 1, 0, none⟩ : Addr).add j) = some u :=
 World.news_of_block (t := 51) (fr := (0, 0)) (by have h := heap_alloc_new (w.alloc a) (.cells cs 51); rwa [zdk] at h)
theorem zh8 (w : World) (cs : Array Value) : ∀ (j : Nat) u, cs.toList[j]? = some u -> (w.alloc (.cells cs 51)).cell? ((⟨w.heap.size, 0, none⟩ : Addr).add j) = some u :=
 World.news_of_block (t := 51) (fr := (0, 0)) (heap_alloc_new w _)
theorem zgg (n : Nd) : ∀ u ∈ ndV n, u.oneCell' = true := fun u hu => by
 unfold ndV at hu
 simp only [List.mem_cons, List.not_mem_nil, or_false] at hu
 rcases hu with rfl | rfl | rfl | rfl | rfl | rfl | rfl <;> rfl
theorem zke {W W' : World} {g off : Nat} {s : za8} {row : Option Nat} (h : SpL W g off s) (hg : W.grownBy W' row) (hlt : g < W.heap.size) (hne : some g ≠ row) : SpL W' g off s := fun j p hp =>
 ⟨(hg.cell_far ⟨g, off + j * 2, none⟩ hlt hne).trans (h j p hp).1, (hg.cell_far ⟨g, off + j * 2 + 1, none⟩ hlt hne).trans (h j p hp).2⟩
structure AtN (w wr : World) (B : Nat) (v v' : Value) (L : List Nd) : Prop where
 o : wr.ownsRow B 51 7 v' L.length (ndc L)
 g : w.grownBy wr v.ownBlock
 k : ∀ k, v'.ownBlock = some k -> v.ownBlock = some k ∨ w.heap.size <= k
theorem AtN.below {w wr w2 : World} {B : Nat} {v v' : Value} {L : List Nd} (h : AtN w wr B v v' L) (hb : Below wr.heap.size wr w2) : AtN w w2 B v v' L :=
 ⟨zaX h.o hb, h.g.trans (Below.grow hb _), h.k⟩
theorem AtN.alloc {w wr : World} {B : Nat} {v v' : Value} {L : List Nd} (h : AtN w wr B v v' L) (o : Obj) : AtN w (wr.alloc o) B v v' L := h.below ((Below.refl _ _).alloc (Nat.le_refl _) _)
theorem AtN.push {w wr w1 : World} {B g cap : Nat} {v v' : Value} {L : List Nd} {n : Nd} {ob : Obj} (h : AtN w wr B v v' L) (hown : w1.ownsRow B 51 7 (.slice (some ⟨g, 0, none⟩) (L.length + 1) cap) (L.length + 1) (ndc L ++ ndV n)) (hgrow : (wr.alloc ob).grownBy w1 v'.ownBlock) (hat : v'.ownBlock = some g ∨ g = wr.heap.size + 1) :
  AtN w w1 B v (.slice (some ⟨g, 0, none⟩) (L.length + 1) cap) (L ++ [n]) := by
 refine ⟨by rw [List.length_append, zdD, zek]; exact hown, (h.g.trans (World.grownBy_alloc wr ob _)).andThen hgrow (fun j e => ?_), fun k e => ?_⟩
 ·rcases h.k j e with q | q
  ·exact .inr q
  ·exact .inl q
 ·have e2 : g = k := Option.some.inj e
  rcases hat with q | q
  ·rcases h.k g q with q2 | q2
   ·exact .inl (by rw [q2, e2])
   ·exact .inr (by omega)
  ·have := h.g.size
   exact .inr (by omega)
theorem zes (v : Value) (L : List Nd) (B gx cx : Nat) (s : za8) (hs : ∀ p ∈ s, 0 <= p.1 /\ p.1 <= p.2 /\ p.2 <= 255) (hsl : s.length <= 4) (hL : L.length <= 20000000) (w : World) (ho : w.ownsRow B 51 7 v L.length (ndc L)) (hB : B <= w.heap.size) (hx : SpL w gx 0 s) (hgx : gx < w.heap.size) (hne : v.ownBlock ≠ some gx) :
  Calls Tryz.prog 212 #[v, .slice (some ⟨gx, 0, none⟩) s.length cx] w fun e w' => ∃ v', e = .returned v' /\ AtN w w' B v v' (L ++ zd5 s s.length) := by
 obtain ⟨i0, hinf, hz0, hz1, hz2⟩ := info_parts Tryz.info80
 have HA : Hid (AtN w w B v v (L ++ zd5 s 0)) := ⟨by unfold zd5; simpa using ho, World.grownBy.refl _ _, fun k e => .inl e⟩
 have HX := hO hx
 have HNe : Hid (some gx ≠ v.ownBlock) := Ne.symm hne
 have HS := hO hs
 have HG : Hid (∀ k, k < s.length -> ∃ p, s[k]? = some p) := fun k hk => ⟨_, List.getElem?_eq_getElem hk⟩
 clear ho hx hne hs
 go_enter Tryz.func212, Tryz.ntmps212
 go_wp2_with fail
 go_loopw [0, 11] (fun u t wr => ∃ k : Nat, k <= s.length /\ t = .int .i64 k /\ Hid (AtN w wr B v u (L ++ zd5 s k))) (fun _ t _ => s.length - (intOf t).toNat)
 case atStart => exact ⟨0, by omega, by go_num, HA⟩
 case round =>
  obtain ⟨k, hk, rfl, HW⟩ := hrel
  clear HA
  by_cases hlt : k < s.length
  ·obtain ⟨⟨p1, p2⟩, hp⟩ := HG.out k hlt
   have HN : Hid (zd5 s (k + 1) = zd5 s k ++ ((5, spn p1 p2) :: (if 0 < k then [(7, 0#256)] else []))) := (by show _ = _; rw [zdl]; unfold ndI; rw [hp])
   obtain ⟨b0, b1, b2⟩ := HS.out _ (List.mem_of_getElem? hp)
   obtain ⟨c0, c1⟩ := (zke HX.out HW.out.g hgx HNe.out) k _ hp
   dsimp only at b0 b1 b2 c0 c1
   rw [Nat.zero_add] at c0 c1
   have HR : Hid (∀ w, Calls Tryz.prog 215 #[.int .i64 p1, .int .i64 p2] w fun e w' => e = .returned (.tuple #[sv (spn p1 p2), .int .i64 0]) /\ Below w.heap.size w w') := fun w => zj4 p1 p2 w b0 b1 b2
   have hll := zfB s k
   have z0 : (0 : Int) <= (k : Int) := by omega
   have z1 : (k : Int) < (s.length : Int) := by omega
   have hLl : (L ++ zd5 s k).length <= 20000008 := by rw [List.length_append]; omega
   have hwB : B <= wr.heap.size := Nat.le_trans hB HW.out.g.size
   generalize zd5 s k = T at *
   generalize hM : L ++ T = M at *
   have HM := hO hM
   clear hp hM HG HS hll
   generalize spn p1 p2 = x at *
   generalize s.length = m at *
   go_wp2_with fail
   refine (HR.out _).mono ?_
   rintro e w2 ⟨rfl, hb2⟩
   have HW2 : Hid (AtN w w2 B v u0 M) := (HW.out.alloc _).below hb2
   have hsz2 := hb2.size
   rw [zdk] at hsz2
   clear hb2 HW c0 c1
   have hO2 := HW2.out.o
   go_wp2_with (at_builtin; refine wpList_append_lies _ rfl _ _ 23 rfl B 51 i0 (.agg #[.int .i64 0, .int .i64 0, .string ⟨#[]⟩, .int .u64 0, .int .u64 0, .int .u64 0, .int .u64 0]) 7 64 Tryz.underlying23 hinf hz0 hz1 hz2 rfl (by decide) _ _ _ rfl ((hO2.alloc _).alloc _) ⟨w2.heap.size + 1, 0, none⟩ 1 1 (ndV (5, x)) rfl rfl (zmH w2 _ (ndA 5 x)) (zgg _) (by decide) ?c3 ?c4 ?c5 (w2.heap.size + 1 + 1) (by simp) ?_)
   case c3 => unfold maxLen; omega
   case c4 => omega
   case c5 => simp; omega
   intro g cap w3 hown hgrow hat hlt3
   have HW3 : Hid (AtN w w3 B v (.slice (some ⟨g, 0, none⟩) (M.length + 1) cap) (M ++ [(5, x)])) := (HW2.out.alloc _).push hown hgrow (by rw [zdk]; exact hat)
   have hsz3 := hgrow.size
   rw [zdk, zdk] at hsz3
   clear hown hgrow hat hO2 HW2
   by_cases hk0 : 0 < k
   ·have z2 : (0 : Int) < (k : Int) := by omega
    have hO3 := HW3.out.o
    have HN2 : Hid (L ++ zd5 s (k + 1) = (M ++ [(5, x)]) ++ [(7, 0#256)]) := (by show _ = _; rw [HN.out, if_pos hk0, <- HM.out]; simp)
    go_wp2_with (at_builtin; refine wpList_append_lies _ rfl _ _ 23 rfl B 51 i0 (.agg #[.int .i64 0, .int .i64 0, .string ⟨#[]⟩, .int .u64 0, .int .u64 0, .int .u64 0, .int .u64 0]) 7 64 Tryz.underlying23 hinf hz0 hz1 hz2 rfl (by decide) _ _ _ rfl (hO3.alloc _) ⟨w3.heap.size, 0, none⟩ 1 1 (ndZ 7).toList rfl rfl (zh8 w3 (ndZ 7)) (by rw [zgl]; exact zgg _) (by decide) ?c3 ?c4 ?c5 (w3.heap.size + 1) (by simp) ?_)
    case c3 => simp; unfold maxLen; omega
    case c4 => simp; omega
    case c5 => simp; omega
    intro g2 cap2 w4 hown hgrow hat hlt4
    have HW4 := (show Hid (AtN w w4 B v (.slice (some ⟨g2, 0, none⟩) (M.length + 1 + 1) cap2) (L ++ zd5 s (k + 1))) from (by
     have e : (M ++ [(5, x)]).length = M.length + 1 := by simp
     rw [HN2.out]
     have hp := HW3.out.push (g := g2) (cap := cap2) (n := (7, 0#256)) (by rw [e, <- zgl]; exact hown) hgrow hat
     rwa [e] at hp))
    clear hown hgrow hat hO3 HW3
    go_wp2
    go_roundw
    case rel => exact ⟨k + 1, by omega, by go_num, HW4⟩
    case measure => simp [intOf]; omega
   ·have hk00 : k = 0 := by omega
    have HN2 : Hid (L ++ zd5 s (k + 1) = M ++ [(5, x)]) := (by show _ = _; rw [HN.out, if_neg hk0, <- HM.out]; simp)
    rw [<- HN2.out] at HW3
    subst hk00
    go_wp2
    go_roundw
    case rel => exact ⟨0 + 1, by omega, by go_num, HW3⟩
    case measure => simp [intOf]; omega
  ·obtain rfl : k = s.length := by omega
   clear HG HS HX
   go_wp2
   go_ret
   exact ⟨_, rfl, HW.out⟩
theorem zfC : ∀ (f : Nat) (lo hi : Int), Blk lo hi -> (hi - lo).toNat <= f -> ∀ p ∈ pcs f lo hi, Blk p.1 p.2 /\ zdY p.1 p.2 = none
 | 0, lo, hi, h, hf, p, hp => by
  have hs : zdY lo hi = none := by
   cases hs : zdY lo hi with
   | none => rfl
   | some c => have := zbH h.cpl.2.2.2.1 h.cpl.2.2.2.2.1 hs; omega
  rw [zby hs, List.mem_singleton] at hp
  rw [hp]; exact ⟨h, hs⟩
 | f + 1, lo, hi, h, hf, p, hp => by
  cases hs : zdY lo hi with
  | none =>
   rw [zby hs, List.mem_singleton] at hp
   rw [hp]; exact ⟨h, hs⟩
  | some c =>
   have := zbH h.cpl.2.2.2.1 h.cpl.2.2.2.2.1 hs
   rw [zdi hs] at hp
   rcases List.mem_append.1 hp with hp | hp
   ·exact zfC f lo (c - 1) (h.cut hs).1 (by omega) p hp
   ·exact zfC f c hi (h.cut hs).2 (by omega) p hp
theorem zda {lo hi m : Int} (h : zcB lo hi m = none) : lo / m = hi / m ∨ (lo % m = 0 /\ (hi + 1) % m = 0) := by
 unfold zcB at h
 split at h
 ·next q => exact .inl q
 ·split at h
  ·cases h
  ·split at h
   ·cases h
   ·next q1 q2 q3 => exact .inr ⟨by omega, by omega⟩
theorem zph {lo hi : Int} (h : zdY lo hi = none) : (2 <= szI lo -> lo / 64 = hi / 64 ∨ (lo % 64 = 0 /\ (hi + 1) % 64 = 0)) /\ (3 <= szI lo -> lo / 4096 = hi / 4096 ∨ (lo % 4096 = 0 /\ (hi + 1) % 4096 = 0)) /\ (4 <= szI lo -> lo / 262144 = hi / 262144 ∨ (lo % 262144 = 0 /\ (hi + 1) % 262144 = 0)) := by
 unfold zdY at h
 have hb := zfb lo
 have key : ∀ (k : Nat) (m : Int), zc9 lo hi (k + 1) m = none -> zcB lo hi (m * 64) = none /\ zc9 lo hi k (m * 64) = none := fun k m hk => by
  rw [zc9] at hk
  split at hk
  ·cases hk
  ·next q => exact ⟨q, hk⟩
 refine ⟨fun h2 => ?_, fun h3 => ?_, fun h4 => ?_⟩
 ·rw [show szI lo - 1 = (szI lo - 2) + 1 from by omega] at h
  exact zda (key _ _ h).1
 ·rw [show szI lo - 1 = (szI lo - 3) + 1 + 1 from by omega] at h
  exact zda (key _ _ (key _ _ h).2).1
 ·rw [show szI lo - 1 = (szI lo - 4) + 1 + 1 + 1 from by omega] at h
  exact zda (key _ _ (key _ _ (key _ _ h).2).2).1
def ordS (s : za8) : Prop := ∀ p ∈ s, 0 <= p.1 /\ p.1 <= p.2 /\ p.2 <= 255
theorem zmI {lo hi : Int} (h : Blk lo hi) (hs : zdY lo hi = none) : ordS (shp (lo, hi)) := by
 obtain ⟨h1, h2, h3, h4, h5, h6⟩ := h.cpl
 obtain ⟨k2, k3, k4⟩ := zph hs
 unfold ordS shp
 unfold szI at *
 unfold Blk at h
 intro p hp
 rcases zfw h1 with q | q | q | q
 ·dsimp only at hp
  rw [zfu q.1 q.2, zfu (by omega) (by omega)] at hp
  simp only [List.zip_cons_cons, List.zip_nil_right, List.mem_cons, List.not_mem_nil, or_false] at hp
  rw [hp]; dsimp only; omega
 ·rw [if_neg (by omega), if_pos (by omega)] at k2
  have k2 := k2 (by omega)
  dsimp only at hp
  rw [zfv q.1 q.2, zfv (by omega) (by omega)] at hp
  simp only [List.zip_cons_cons, List.zip_nil_right, List.mem_cons, List.not_mem_nil, or_false] at hp
  rcases hp with hp | hp
  ·rw [hp]; dsimp only; omega
  ·rw [hp]; dsimp only; omega
 ·rw [if_neg (by omega), if_neg (by omega), if_pos (by omega)] at k2 k3
  have k2 := k2 (by omega)
  have k3 := k3 (by omega)
  dsimp only at hp
  rw [zdh q, zdh (by omega)] at hp
  simp only [List.zip_cons_cons, List.zip_nil_right, List.mem_cons, List.not_mem_nil, or_false] at hp
  rcases hp with hp | hp | hp
  ·rw [hp]; dsimp only; omega
  ·rw [hp]; dsimp only; omega
  ·rw [hp]; dsimp only; omega
 ·rw [if_neg (by omega), if_neg (by omega), if_neg (by omega)] at k2 k3 k4
  have k2 := k2 (by omega)
  have k3 := k3 (by omega)
  have k4 := k4 (by omega)
  dsimp only at hp
  rw [zd3 q.1 q.2, zd3 (by omega) (by omega)] at hp
  simp only [List.zip_cons_cons, List.zip_nil_right, List.mem_cons, List.not_mem_nil, or_false] at hp
  rcases hp with hp | hp | hp | hp
  ·rw [hp]; dsimp only; omega
  ·rw [hp]; dsimp only; omega
  ·rw [hp]; dsimp only; omega
  ·rw [hp]; dsimp only; omega
theorem zpi {lo hi : Int} (h : Blk lo hi) : ∀ s ∈ shs lo hi, ordS s /\ 1 <= s.length /\ s.length <= 4 := fun s hs => by
 obtain ⟨p, hp, rfl⟩ := List.mem_map.1 hs
 obtain ⟨h1, h2⟩ := zfC _ _ _ h (Nat.le_refl _) p hp
 have hl := zg8 h1
 have := zfb p.1
 exact ⟨zmI h1 h2, by rw [show p = (p.1, p.2) from rfl, hl]; omega, by rw [show p = (p.1, p.2) from rfl, hl]; omega⟩
theorem zet (lo hi : Int) : ∀ s ∈ zdj lo hi, ordS s /\ 1 <= s.length /\ s.length <= 4 := fun s hs => by
 unfold zdj at hs
 obtain ⟨b, hb, h2⟩ := List.mem_flatMap.1 hs
 unfold zgk at h2
 obtain ⟨k, hk, rfl⟩ := List.getElem_of_mem hb
 split at h2
 ·next q => exact zpi ((zj8 (List.getElem?_eq_getElem hk)).2.2.2 lo hi q) s h2
 ·cases h2
def zjB (ss : List za8) : List Nd := if ss.length = 0 then [(2, 0#256)] else zfA ss ss.length
def PnV (w w' : World) (lo hi : Int) (e : Ending) : Prop :=
 if bdB lo = true /\ bdB hi = true then
  (if lo <= hi then ∃ v, e = .returned (.tuple #[v, .int .i64 0]) /\ w'.ownsRow w.heap.size 51 7 v (zjB (zdj lo hi)).length (ndc (zjB (zdj lo hi))) else e = .returned (.tuple #[.slice none 0 0, .int .i64 1]))
 else e = .returned (.tuple #[.slice none 0 0, .int .i64 30])
theorem zbN {w w' : World} (h : w.grownBy w' none) : Below w.heap.size w w' := ⟨h.os, h.tape, h.output, h.size, fun k hk => h.block k hk (by simp)⟩
theorem zmJ (w : World) (op : Int) : (w.alloc (.cells (ndZ op) 51)).ownsRow w.heap.size 51 7 (.slice (some ⟨w.heap.size, 0, none⟩) 1 1) 1 (ndc [(op, 0#256)]) := by
 rw [zek, <- zgl]
 exact ⟨rfl, .inr ⟨w.heap.size, 1, ndZ op, rfl, Nat.le_refl _, heap_alloc_new w _, Nat.le_refl _, by unfold maxLen; omega, rfl, rfl⟩⟩
theorem ShV.err {w w' : World} {lo hi : Int} {e : Ending} (h : ShV w w' lo hi e) : (∃ c, e = .returned (.tuple #[.slice none 0 0, .int .i64 c]) /\ c ≠ 0 /\ ∀ w2 w3 e2, e2 = .returned (.tuple #[.slice none 0 0, .int .i64 c]) -> PnV w2 w3 lo hi e2) ∨
  ((∃ v xs, e = .returned (.tuple #[v, .int .i64 0]) /\ RR w' w.heap.size v (zdj lo hi) xs) /\ ∀ w2 w3 e2, (∃ v, e2 = .returned (.tuple #[v, .int .i64 0]) /\ w3.ownsRow w2.heap.size 51 7 v (zjB (zdj lo hi)).length (ndc (zjB (zdj lo hi)))) -> PnV w2 w3 lo hi e2) := by
 unfold ShV at h
 split at h
 ·next q =>
  split at h
  ·next q2 => exact .inr ⟨h, fun _ _ _ h2 => by unfold PnV; rw [if_pos q, if_pos q2]; exact h2⟩
  ·next q2 => exact .inl ⟨1, h, by omega, fun _ _ _ h2 => by unfold PnV; rw [if_pos q, if_neg q2]; exact h2⟩
 ·next q => exact .inl ⟨30, h, by omega, fun _ _ _ h2 => by unfold PnV; rw [if_neg q]; exact h2⟩
theorem zbU (lo hi : Int) (w : World) (hv : VB w) : Calls Tryz.prog 209 #[.int .i64 lo, .int .i64 hi] w fun e w' => PnV w w' lo hi e /\ Below w.heap.size w w' := by
 obtain ⟨i0, hinf, hz0, hz1, hz2⟩ := info_parts Tryz.info80
 have HS : Hid (Calls Tryz.prog 211 #[.int .i64 lo, .int .i64 hi] w fun e w' => ShV w w' lo hi e /\ Below w.heap.size w w') := zi5 lo hi w hv
 have HO := hO (zet lo hi)
 have HLn := hO (zh4 lo hi 5)
 rw [zfy] at HLn
 clear hv
 go_enter Tryz.func209, Tryz.ntmps209
 go_wp2_with fail
 refine HS.out.mono ?_
 rintro e w1 ⟨hsh, hb1⟩
 have HB1 := hO hb1
 clear hb1 HS
 rcases hsh.err with ⟨c, rfl, hc, hP⟩ | ⟨⟨sv, xs, rfl, hR⟩, hP⟩
 ·have HP := hO hP
  have ec : (c != 0) = true := bne_iff_ne.2 hc
  clear hsh hP hc
  go_wp2
  go_ret2
  exact ⟨HP.out _ _ _ rfl, HB1.out⟩
 ·have HP := hO hP
  have HR := hO hR
  clear hsh hP
  generalize zdj lo hi = ss at *
  have hlx := hR.len
  obtain ⟨A, cs, rfl⟩ : ∃ A cs, sv = .slice A ss.length cs := by
   rcases hR.o.2 with ⟨rfl, h0⟩ | ⟨g, cap, cur, rfl, _⟩
   ·exact ⟨none, 0, by rw [<- hlx, h0]⟩
   ·exact ⟨_, _, by rw [hlx]⟩
  clear hR hlx
  by_cases hn : ss.length = 0
  ·have HE : Hid (zjB ss = [(2, 0#256)]) := (by show _ = _; unfold zjB; rw [if_pos hn])
   have e0 : ((ss.length : Int) == 0) = true := by rw [hn]; rfl
   have HN := hO (zmJ w1 2)
   have HB2 : Hid (Below w.heap.size w (w1.alloc (.cells (ndZ 2) 51))) := HB1.out.alloc HB1.out.size _
   have hz1' := HB1.out.size
   clear HO HR HLn hn
   generalize ss.length = m at *
   go_wp2
   go_ret2
   exact ⟨HP.out _ _ _ ⟨_, rfl, by rw [HE.out]; exact zaV HN.out hz1'⟩, HB2.out⟩
  ·have HE : Hid (zjB ss = zfA ss ss.length) := (by show _ = _; unfold zjB; rw [if_neg hn])
   have e0 : ((ss.length : Int) == 0) = false := bF (by omega)
   have HG : Hid (∀ k, k < ss.length -> ∃ s, ss[k]? = some s) := fun k hk => ⟨_, List.getElem?_eq_getElem hk⟩
   have HPl : Hid (∀ k, (zfA ss k).length <= 9 * k) := fun k => zh7 ss k fun s hs => (HO.out s hs).2.2
   clear hn
   go_wp2_with fail
   go_loopw [8, 27] (fun u t wr => ∃ k : Nat, k <= ss.length /\ t = .int .i64 k /\ Hid (AtN w1 wr w1.heap.size (.slice none 0 0) u (zfA ss k))) (fun _ t _ => ss.length - (intOf t).toNat)
   case atStart => exact ⟨0, by omega, by go_num, ⟨World.ownsRow_nil _ _ _ _, World.grownBy.refl _ _, fun k e => .inl e⟩⟩
   case round =>
    obtain ⟨k, hk, rfl, HW⟩ := hrel
    by_cases hlt : k < ss.length
    ·obtain ⟨s, hs⟩ := HG.out k hlt
     have HBw : Hid (Below w1.heap.size w1 wr) := zbN HW.out.g
     obtain ⟨g, cap, gx, cx, hA, hgl, _, hcell, hgx, hspl⟩ := (HR.out.below HBw.out).get hs
     cases hA
     have HI : Hid (zfA ss (k + 1) = (zfA ss k ++ zd5 s s.length) ++ (if 0 < k then [(8, 0#256)] else [])) := (by show _ = _; rw [zdm]; unfold ptI; rw [hs, List.append_assoc])
     obtain ⟨ho1, _, ho3⟩ := HO.out s (List.mem_of_getElem? hs)
     have hplk := HPl.out k
     have hln := HLn.out
     obtain ⟨gx0, hgx0⟩ : ∃ q : Nat, gx < w1.heap.size := ⟨0, by
      obtain ⟨g', cap', gx', cx', hA', _, _, hc', hgx', _⟩ := HR.out.get hs
      cases hA'
      have e1 := HBw.out.cell (p := ⟨g, k, none⟩) (World.block_lt_of_cell? w1 _ hc')
      rw [hcell] at e1
      rw [hc'] at e1
      cases e1
      exact hgx'⟩
     have HAS : Hid (Calls Tryz.prog 212 #[u8, .slice (some ⟨gx, 0, none⟩) s.length cx] wr fun e w' => ∃ v', e = .returned v' /\ AtN wr w' w1.heap.size u8 v' (zfA ss k ++ zd5 s s.length)) := zes u8 (zfA ss k) w1.heap.size gx cx s ho1 ho3 (by omega) wr HW.out.o HBw.out.size hspl hgx (fun e => by
      rcases HW.out.k gx e with q | q
      ·cases q
      ·omega)
     have z0 : (0 : Int) <= (k : Int) := by omega
     have z1 : (k : Int) < (ss.length : Int) := by omega
     have z9 : (ss.length : Int) <= 1114112 := by omega
     have hndl := zfB s s.length
     have hLl : (zfA ss k ++ zd5 s s.length).length <= 20000000 := by rw [List.length_append]; omega
     generalize hM : zfA ss k ++ zd5 s s.length = M at *
     clear hM hplk hln hspl ho1 hndl
     go_wp2_with fail
     refine HAS.out.mono ?_
     rintro e w2 ⟨v2, rfl, hA2⟩
     have HW2 := (show Hid (AtN w1 w2 w1.heap.size (.slice none 0 0) v2 M) from ⟨hA2.o, HW.out.g.andThen hA2.g (fun j e => by
      rcases HW.out.k j e with q | q
      ·cases q
      ·exact .inl q), fun j e => by
       rcases hA2.k j e with q | q
       ·exact HW.out.k j q
       ·have := HBw.out.size; exact .inr (by omega)⟩)
     have hsz2 := hA2.g.size
     have hszw := HBw.out.size
     clear hA2 HAS HW HBw hcell
     by_cases hk0 : 0 < k
     ·have z2 : (0 : Int) < (k : Int) := by omega
      have hO3 := HW2.out.o
      have HI2 : Hid (zfA ss (k + 1) = M ++ [(8, 0#256)]) := (by show _ = _; rw [HI.out, if_pos hk0])
      go_wp2_with (at_builtin; refine wpList_append_lies _ rfl _ _ 23 rfl w1.heap.size 51 i0 (.agg #[.int .i64 0, .int .i64 0, .string ⟨#[]⟩, .int .u64 0, .int .u64 0, .int .u64 0, .int .u64 0]) 7 64 Tryz.underlying23 hinf hz0 hz1 hz2 rfl (by decide) _ _ _ rfl (hO3.alloc _) ⟨w2.heap.size, 0, none⟩ 1 1 (ndZ 8).toList rfl rfl (zh8 w2 (ndZ 8)) (by rw [zgl]; exact zgg _) (by decide) ?c3 ?c4 ?c5 (w2.heap.size + 1) (by simp) ?_)
      case c3 => unfold maxLen; omega
      case c4 => omega
      case c5 => simp; omega
      intro g2 cap2 w4 hown hgrow hat hlt4
      have HW4 := (show Hid (AtN w1 w4 w1.heap.size (.slice none 0 0) (.slice (some ⟨g2, 0, none⟩) (M.length + 1) cap2) (zfA ss (k + 1))) from (by
       rw [HI2.out]
       exact HW2.out.push (n := (8, 0#256)) (by rw [<- zgl]; exact hown) hgrow hat))
      clear hown hgrow hat hO3 HW2
      go_wp2
      go_roundw
      case rel => exact ⟨k + 1, by omega, by go_num, HW4⟩
      case measure => simp [intOf]; omega
     ·have hk00 : k = 0 := by omega
      have HI2 : Hid (zfA ss (k + 1) = M) := (by show _ = _; rw [HI.out, if_neg hk0, List.append_nil])
      rw [<- HI2.out] at HW2
      subst hk00
      go_wp2
      go_roundw
      case rel => exact ⟨0 + 1, by omega, by go_num, HW2⟩
      case measure => simp [intOf]; omega
    ·obtain rfl : k = ss.length := by omega
     have HB3 : Hid (Below w.heap.size w wr) := HB1.out.trans ((zbN HW.out.g).mono HB1.out.size)
     have hz := HB1.out.size
     rw [<- HE.out] at HW
     clear HG HR HO HPl HE
     go_wp2
     go_ret2
     exact ⟨HP.out _ _ _ ⟨_, rfl, zaV HW.out.o hz⟩, HB3.out⟩
end Go.Proofs.YtnpifgcgjgddoaaGreatDoor.R
namespace Go.Proofs.YtnpifgcgjgddoaaGreatDoor.N
open Go.RowKit
def cvN (n : R.Nd) : Nd := ⟨n.1, 0, ⟨#[]⟩, wd n.2 0, wd n.2 1, wd n.2 2, wd n.2 3⟩
theorem zpj (l : List R.Nd) : R.ndc l = T.ndc (l.map cvN) := by
 unfold R.ndc T.ndc
 rw [List.flatMap_map]
 rfl
def rnP (lo hi : Int) : List Nd := (R.zjB (R.zdj lo hi)).map cvN
def tmL (tx : ByteArray) : List Nd := [⟨1, 0, ⟨#[]⟩, 0, 0, 0, 0⟩, ⟨22, 0, tx, 0, 0, 0, 0⟩]
theorem ck_tm (tx : ByteArray) : ((T.ck (tmL tx)).2 == 0) = T.tmB tx := by
 have e : (⟨#[]⟩ : ByteArray) = ByteArray.empty := rfl
 cases h : T.tmB tx <;> simp [tmL, T.ck, T.zjA, T.er, T.alE, T.fdF, T.txF, T.nuF, T.seF, T.ar, T.run, T.pt, T.mk, T.arN, T.zcR, h, e]
theorem rd_two (w : World) (a b : Nd) : T.RdN (w.alloc (.cells #[.int .i64 a.op, .int .i64 a.nn, .string a.tx, .int .u64 a.s0, .int .u64 a.s1, .int .u64 a.s2, .int .u64 a.s3, .int .i64 b.op, .int .i64 b.nn, .string b.tx, .int .u64 b.s0, .int .u64 b.s1, .int .u64 b.s2, .int .u64 b.s3] 51)) (some ⟨w.heap.size, 0, none⟩) [a, b] := fun _ => by
 refine ⟨w.heap.size, 0, rfl, by rw [World.size_alloc]; omega, ?_⟩
 refine T.zg5 (B := w.heap.size) (n := 2) (cap := 2) (xs := []) ?_
 rw [List.append_nil]
 exact ⟨rfl, .inr ⟨w.heap.size, 2, _, rfl, Nat.le_refl _, heap_alloc_new w _, Nat.le_refl _, by unfold maxLen; omega, rfl, rfl⟩⟩
theorem zkf (tx : ByteArray) (hs : tx.size <= 140737488355328) (W : World) : Calls Tryz.prog 204 #[.string tx] W fun e W' => e = .returned (.bool (T.tmB tx)) /\ Below W.heap.size W W' := by
 have HC : Hid (∀ _ : Unit, Calls Tryz.prog 25 #[.slice (some ⟨W.heap.size, 0, none⟩) 2 2] (W.alloc (.cells #[.int .i64 1, .int .i64 0, .string ⟨#[]⟩, .int .u64 0, .int .u64 0, .int .u64 0, .int .u64 0, .int .i64 22, .int .i64 0, .string tx, .int .u64 0, .int .u64 0, .int .u64 0, .int .u64 0] 51)) fun e w' => e = .returned (.tuple #[.int .i64 (T.ck (tmL tx)).1, .int .i64 (T.ck (tmL tx)).2]) /\ Below (W.heap.size + 1) (W.alloc (.cells #[.int .i64 1, .int .i64 0, .string ⟨#[]⟩, .int .u64 0, .int .u64 0, .int .u64 0, .int .u64 0, .int .i64 22, .int .i64 0, .string tx, .int .u64 0, .int .u64 0, .int .u64 0, .int .u64 0] 51)) w') := fun _ => by
  have h := T.za5 (tmL tx) (some ⟨W.heap.size, 0, none⟩) 2 (by show 2 <= _; omega) (by intro n hn; rcases List.mem_cons.1 hn with rfl | hn; exact Nat.zero_le _; rw [List.mem_singleton.1 hn]; exact hs) _ (rd_two W _ _)
  rw [World.size_alloc] at h
  exact h
 have HE : Hid (((T.ck (tmL tx)).2 == 0) = T.tmB tx) := ck_tm tx
 generalize T.ck (tmL tx) = r at *
 go_enter Tryz.func204, Tryz.ntmps204
 go_wp2_with fail
 refine (HC.out ()).mono ?_
 rintro e w1 ⟨rfl, hb⟩
 have HB : Hid (Below W.heap.size W w1) := (zaa W _).trans (hb.mono (Nat.le_succ _))
 clear hb HC
 go_wp2_with fail
 go_ret
 exact ⟨by rw [<- HE.out]; rfl, HB.out⟩
def lfN (t : Tk) : List Nd := if t.kd = 2 then (if t.tx.size = 0 then [nd0 1] else [⟨4, 0, t.tx, 0, 0, 0, 0⟩]) else if t.kd = 3 ∨ t.kd = 28 then [⟨5, 0, ⟨#[]⟩, t.s0, t.s1, t.s2, t.s3⟩] else if t.kd = 5 then rnP t.nn t.s0 else if t.kd = 18 then [nd0 3] else if t.kd = 30 then [nd0 2] else if t.kd = 1 then [⟨6, 0, t.tx, 0, 0, 0, 0⟩] else [nd0 1]
theorem own_nd (W : World) (n : Nd) (B : Nat) (hB : B <= W.heap.size) : (W.alloc (.cells #[.int .i64 n.op, .int .i64 n.nn, .string n.tx, .int .u64 n.s0, .int .u64 n.s1, .int .u64 n.s2, .int .u64 n.s3] 51)).ownsRow B 51 7 (.slice (some ⟨W.heap.size, 0, none⟩) 1 1) 1 (T.ndc [n]) := by
 rw [T.zek]
 exact ⟨rfl, .inr ⟨W.heap.size, 1, _, rfl, hB, heap_alloc_new W _, Nat.le_refl _, by unfold maxLen; omega, rfl, rfl⟩⟩
theorem zcC (w : World) (a b : Obj) (n : Nd) : (((w.alloc a).alloc b).alloc (.cells #[.int .i64 n.op, .int .i64 n.nn, .string n.tx, .int .u64 n.s0, .int .u64 n.s1, .int .u64 n.s2, .int .u64 n.s3] 51)).ownsRow w.heap.size 51 7 (.slice (some ⟨w.heap.size + 1 + 1, 0, none⟩) 1 1) 1 (T.ndc [n]) := by
 have h := own_nd ((w.alloc a).alloc b) n w.heap.size (by rw [World.size_alloc, World.size_alloc]; omega)
 rwa [World.size_alloc, World.size_alloc] at h
theorem zcy (w : World) (a b c : Obj) : Below w.heap.size w (((w.alloc a).alloc b).alloc c) := (((Below.refl _ _).alloc (Nat.le_refl _) _).alloc (by rw [World.size_alloc]; omega) _).alloc (by rw [World.size_alloc, World.size_alloc]; omega) _
def LfV (w w' : World) (M : List Nd) (e : Ending) : Prop := ∃ v, e = .returned v /\ w'.ownsRow w.heap.size 51 7 v M.length (T.ndc M)
theorem zpk (t : Tk) (hk : t.kd = 18) (w : World) : Calls Tryz.prog 203 #[tkG t] w fun e w' => LfV w w' [nd0 3] e /\ Below w.heap.size w w' := by
 obtain ⟨kd, nn, fr, en, tx, s0, s1, s2, s3⟩ := t
 obtain rfl : kd = 18 := hk
 go_enter Tryz.func203, Tryz.ntmps203
 go_wp2_with fail
 go_ret
 exact ⟨⟨_, rfl, zcC w _ _ (nd0 3)⟩, zcy _ _ _ _⟩
theorem zpl (t : Tk) (hk : t.kd = 30) (w : World) : Calls Tryz.prog 203 #[tkG t] w fun e w' => LfV w w' [nd0 2] e /\ Below w.heap.size w w' := by
 obtain ⟨kd, nn, fr, en, tx, s0, s1, s2, s3⟩ := t
 obtain rfl : kd = 30 := hk
 go_enter Tryz.func203, Tryz.ntmps203
 go_wp2_with fail
 go_ret
 exact ⟨⟨_, rfl, zcC w _ _ (nd0 2)⟩, zcy _ _ _ _⟩
theorem leaf_1 (t : Tk) (hk : t.kd = 1) (w : World) : Calls Tryz.prog 203 #[tkG t] w fun e w' => LfV w w' [⟨6, 0, t.tx, 0, 0, 0, 0⟩] e /\ Below w.heap.size w w' := by
 obtain ⟨kd, nn, fr, en, tx, s0, s1, s2, s3⟩ := t
 obtain rfl : kd = 1 := hk
 go_enter Tryz.func203, Tryz.ntmps203
 go_wp2_with fail
 go_ret
 exact ⟨⟨_, rfl, zcC w _ _ (⟨6, 0, tx, 0, 0, 0, 0⟩)⟩, zcy _ _ _ _⟩
theorem leaf_3 (t : Tk) (hk : t.kd = 3) (w : World) : Calls Tryz.prog 203 #[tkG t] w fun e w' => LfV w w' [⟨5, 0, ⟨#[]⟩, t.s0, t.s1, t.s2, t.s3⟩] e /\ Below w.heap.size w w' := by
 obtain ⟨kd, nn, fr, en, tx, s0, s1, s2, s3⟩ := t
 obtain rfl : kd = 3 := hk
 go_enter Tryz.func203, Tryz.ntmps203
 go_wp2_with fail
 go_ret
 exact ⟨⟨_, rfl, zcC w _ _ (⟨5, 0, ⟨#[]⟩, s0, s1, s2, s3⟩)⟩, zcy _ _ _ _⟩
theorem zpm (t : Tk) (hk : t.kd = 28) (w : World) : Calls Tryz.prog 203 #[tkG t] w fun e w' => LfV w w' [⟨5, 0, ⟨#[]⟩, t.s0, t.s1, t.s2, t.s3⟩] e /\ Below w.heap.size w w' := by
 obtain ⟨kd, nn, fr, en, tx, s0, s1, s2, s3⟩ := t
 obtain rfl : kd = 28 := hk
 go_enter Tryz.func203, Tryz.ntmps203
 go_wp2_with fail
 go_ret
 exact ⟨⟨_, rfl, zcC w _ _ (⟨5, 0, ⟨#[]⟩, s0, s1, s2, s3⟩)⟩, zcy _ _ _ _⟩
theorem zpn (t : Tk) (hk : t.kd = 29) (w : World) : Calls Tryz.prog 203 #[tkG t] w fun e w' => LfV w w' [nd0 1] e /\ Below w.heap.size w w' := by
 obtain ⟨kd, nn, fr, en, tx, s0, s1, s2, s3⟩ := t
 obtain rfl : kd = 29 := hk
 go_enter Tryz.func203, Tryz.ntmps203
 go_wp2_with fail
 go_ret
 exact ⟨⟨_, rfl, zcC w _ _ (nd0 1)⟩, zcy _ _ _ _⟩
theorem zpo (t : Tk) (hk : t.kd = 2) (ht : t.tx.size = 0) (w : World) : Calls Tryz.prog 203 #[tkG t] w fun e w' => LfV w w' [nd0 1] e /\ Below w.heap.size w w' := by
 obtain ⟨kd, nn, fr, en, tx, s0, s1, s2, s3⟩ := t
 obtain rfl : kd = 2 := hk
 have e1 : tx = ⟨#[]⟩ := by
  have h : tx.size = 0 := ht
  obtain ⟨d⟩ := tx
  rw [Array.eq_empty_of_size_eq_zero (show d.size = 0 from h)]
 subst e1
 clear ht
 go_enter Tryz.func203, Tryz.ntmps203
 go_wp2_with fail
 go_ret
 exact ⟨⟨_, rfl, zcC w _ _ (nd0 1)⟩, zcy _ _ _ _⟩
theorem leaf_2 (t : Tk) (hk : t.kd = 2) (ht : ¬ t.tx.size = 0) (w : World) : Calls Tryz.prog 203 #[tkG t] w fun e w' => LfV w w' [⟨4, 0, t.tx, 0, 0, 0, 0⟩] e /\ Below w.heap.size w w' := by
 obtain ⟨kd, nn, fr, en, tx, s0, s1, s2, s3⟩ := t
 obtain rfl : kd = 2 := hk
 have e1 : tx.toList.isEmpty = false := T.zel ht
 clear ht
 go_enter Tryz.func203, Tryz.ntmps203
 go_wp2_with fail
 go_ret
 exact ⟨⟨_, rfl, zcC w _ _ (⟨4, 0, tx, 0, 0, 0, 0⟩)⟩, zcy _ _ _ _⟩
theorem leaf_5 (t : Tk) (hk : t.kd = 5) (hn : 0 <= t.nn /\ t.nn <= t.s0 /\ t.s0 <= 1114111) (w : World) (hv : R.VB w) : Calls Tryz.prog 203 #[tkG t] w fun e w' => LfV w w' (rnP t.nn t.s0) e /\ Below w.heap.size w w' := by
 obtain ⟨kd, nn, fr, en, tx, s0, s1, s2, s3⟩ := t
 obtain rfl : kd = 5 := hk
 dsimp only at hn ⊢
 have HP : Hid (∀ W, R.VB W -> Calls Tryz.prog 209 #[.int .i64 nn, .int .i64 s0] W fun e w' => (∃ v, e = .returned (.tuple #[v, .int .i64 0]) /\ w'.ownsRow W.heap.size 51 7 v (rnP nn s0).length (T.ndc (rnP nn s0))) /\ Below W.heap.size W w') := fun W h => by
  refine (R.zbU nn s0 W h).mono ?_
  rintro e w' ⟨h1, h2⟩
  refine ⟨?_, h2⟩
  unfold R.PnV at h1
  rw [if_pos ⟨by unfold R.bdB; exact decide_eq_true (by omega), by unfold R.bdB; exact decide_eq_true (by omega)⟩, if_pos hn.2.1] at h1
  obtain ⟨v, h3, h4⟩ := h1
  exact ⟨v, h3, by unfold rnP; rw [List.length_map, <- zpj]; exact h4⟩
 have HV : Hid (R.VB w) := hv
 have u1 : IntKind.i64.wrap s0 = s0 := by rw [IntKind.wrap_i64]; omega
 clear hv hn
 generalize rnP nn s0 = M at *
 go_enter Tryz.func203, Tryz.ntmps203
 go_wp2_with fail
 have hb2 : ∀ a b : Obj, Below w.heap.size w ((w.alloc a).alloc b) := fun a b => ((Below.refl _ _).alloc (Nat.le_refl _) _).alloc (by rw [World.size_alloc]; omega) _
 refine (HP.out _ (HV.out.below (hb2 _ _) HV.out.lt)).mono ?_
 rintro e w1 ⟨⟨v, rfl, ho⟩, hb⟩
 have HO : Hid (w1.ownsRow w.heap.size 51 7 v M.length (T.ndc M) /\ Below w.heap.size w w1) := ⟨zaV ho (by rw [World.size_alloc, World.size_alloc]; omega), (hb2 _ _).trans (hb.mono (by rw [World.size_alloc, World.size_alloc]; omega))⟩
 clear ho hb hb2 HP HV
 go_wp2_with fail
 go_ret
 exact ⟨⟨v, rfl, HO.out.1⟩, HO.out.2⟩
theorem zmK (t : Tk) (hk : t.kd = 2 ∨ t.kd = 3 ∨ t.kd = 28 ∨ t.kd = 5 ∨ t.kd = 18 ∨ t.kd = 29 ∨ t.kd = 30 ∨ t.kd = 1) (hn : t.kd = 5 -> 0 <= t.nn /\ t.nn <= t.s0 /\ t.s0 <= 1114111) (w : World) (hv : R.VB w) : Calls Tryz.prog 203 #[tkG t] w fun e w' => LfV w w' (lfN t) e /\ Below w.heap.size w w' := by
 rcases hk with h | h | h | h | h | h | h | h
 ·by_cases q : t.tx.size = 0
  ·rw [show lfN t = [nd0 1] from by unfold lfN; rw [if_pos h, if_pos q]]; exact zpo t h q w
  ·rw [show lfN t = [⟨4, 0, t.tx, 0, 0, 0, 0⟩] from by unfold lfN; rw [if_pos h, if_neg q]]; exact leaf_2 t h q w
 ·rw [show lfN t = [⟨5, 0, ⟨#[]⟩, t.s0, t.s1, t.s2, t.s3⟩] from by unfold lfN; rw [if_neg (by omega), if_pos (.inl h)]]; exact leaf_3 t h w
 ·rw [show lfN t = [⟨5, 0, ⟨#[]⟩, t.s0, t.s1, t.s2, t.s3⟩] from by unfold lfN; rw [if_neg (by omega), if_pos (.inr h)]]; exact zpm t h w
 ·rw [show lfN t = rnP t.nn t.s0 from by unfold lfN; rw [if_neg (by omega), if_neg (by omega), if_pos h]]; exact leaf_5 t h (hn h) w hv
 ·rw [show lfN t = [nd0 3] from by unfold lfN; rw [if_neg (by omega), if_neg (by omega), if_neg (by omega), if_pos h]]; exact zpk t h w
 ·rw [show lfN t = [nd0 1] from by unfold lfN; rw [if_neg (by omega), if_neg (by omega), if_neg (by omega), if_neg (by omega), if_neg (by omega), if_neg (by omega)]]; exact zpn t h w
 ·rw [show lfN t = [nd0 2] from by unfold lfN; rw [if_neg (by omega), if_neg (by omega), if_neg (by omega), if_neg (by omega), if_pos h]]; exact zpl t h w
 ·rw [show lfN t = [⟨6, 0, t.tx, 0, 0, 0, 0⟩] from by unfold lfN; rw [if_neg (by omega), if_neg (by omega), if_neg (by omega), if_neg (by omega), if_neg (by omega), if_pos h]]; exact leaf_1 t h w
theorem zkg {rn : Int -> Int -> List Nd} (hr : ∀ a b, (rn a b).length + 1 <= 10027010) {t : Tk} {k2 : Int} {p : List Nd × Nat} (h : zbg rn t k2 = .inl p) : p.1.length + 1 <= 10027010 := by
 unfold zbg at h
 by_cases c0 : t.kd = 2
 ·rw [if_pos c0] at h
  cases h; first | exact hr _ _ | (show List.length _ + 1 <= _; simp; done) | (show (if _ then _ else _ : List Nd).length + 1 <= _; split <;> simp)
 rw [if_neg c0] at h
 by_cases c1 : t.kd = 3 ∨ t.kd = 28
 ·rw [if_pos c1] at h
  cases h; first | exact hr _ _ | (show List.length _ + 1 <= _; simp; done) | (show (if _ then _ else _ : List Nd).length + 1 <= _; split <;> simp)
 rw [if_neg c1] at h
 by_cases c2 : t.kd = 5
 ·rw [if_pos c2] at h
  cases h; first | exact hr _ _ | (show List.length _ + 1 <= _; simp; done) | (show (if _ then _ else _ : List Nd).length + 1 <= _; split <;> simp)
 rw [if_neg c2] at h
 by_cases c3 : t.kd = 18
 ·rw [if_pos c3] at h
  cases h; first | exact hr _ _ | (show List.length _ + 1 <= _; simp; done) | (show (if _ then _ else _ : List Nd).length + 1 <= _; split <;> simp)
 rw [if_neg c3] at h
 by_cases c4 : t.kd = 29
 ·rw [if_pos c4] at h
  cases h; first | exact hr _ _ | (show List.length _ + 1 <= _; simp; done) | (show (if _ then _ else _ : List Nd).length + 1 <= _; split <;> simp)
 rw [if_neg c4] at h
 by_cases c5 : t.kd = 30
 ·rw [if_pos c5] at h
  cases h; first | exact hr _ _ | (show List.length _ + 1 <= _; simp; done) | (show (if _ then _ else _ : List Nd).length + 1 <= _; split <;> simp)
 rw [if_neg c5] at h
 by_cases c6 : t.kd = 1
 ·rw [if_pos c6] at h
  cases h; first | exact hr _ _ | (show List.length _ + 1 <= _; simp; done) | (show (if _ then _ else _ : List Nd).length + 1 <= _; split <;> simp)
 rw [if_neg c6] at h
 by_cases c7 : t.kd = 16
 ·rw [if_pos c7] at h
  cases h
 rw [if_neg c7] at h
 by_cases c8 : t.kd = 19
 ·rw [if_pos c8] at h
  by_cases d : k2 = 20
  ·rw [if_pos d] at h
   cases h; show List.length _ + 1 <= _; simp
  ·rw [if_neg d] at h
   cases h
 rw [if_neg c8] at h
 by_cases c9 : t.kd = 21
 ·rw [if_pos c9] at h
  cases h
 rw [if_neg c9] at h
 by_cases c10 : t.kd = 23
 ·rw [if_pos c10] at h
  cases h
 rw [if_neg c10] at h
 cases h
theorem zi6 {rn : Int -> Int -> List Nd} {t : Tk} {k2 : Int} {p : Int × List Nd} (h : zbg rn t k2 = .inr p) : p.2.length <= 1 := by
 unfold zbg at h
 by_cases c0 : t.kd = 2
 ·rw [if_pos c0] at h
  cases h
 rw [if_neg c0] at h
 by_cases c1 : t.kd = 3 ∨ t.kd = 28
 ·rw [if_pos c1] at h
  cases h
 rw [if_neg c1] at h
 by_cases c2 : t.kd = 5
 ·rw [if_pos c2] at h
  cases h
 rw [if_neg c2] at h
 by_cases c3 : t.kd = 18
 ·rw [if_pos c3] at h
  cases h
 rw [if_neg c3] at h
 by_cases c4 : t.kd = 29
 ·rw [if_pos c4] at h
  cases h
 rw [if_neg c4] at h
 by_cases c5 : t.kd = 30
 ·rw [if_pos c5] at h
  cases h
 rw [if_neg c5] at h
 by_cases c6 : t.kd = 1
 ·rw [if_pos c6] at h
  cases h
 rw [if_neg c6] at h
 by_cases c7 : t.kd = 16
 ·rw [if_pos c7] at h
  cases h; show List.length _ <= 1; simp
 rw [if_neg c7] at h
 by_cases c8 : t.kd = 19
 ·rw [if_pos c8] at h
  by_cases d : k2 = 20
  ·rw [if_pos d] at h
   cases h
  ·rw [if_neg d] at h
   cases h; show List.length _ <= 1; simp
 rw [if_neg c8] at h
 by_cases c9 : t.kd = 21
 ·rw [if_pos c9] at h
  cases h; show List.length _ <= 1; simp
 rw [if_neg c9] at h
 by_cases c10 : t.kd = 23
 ·rw [if_pos c10] at h
  cases h; show List.length _ <= 1; simp
 rw [if_neg c10] at h
 cases h; show List.length _ <= 1; simp
theorem PF_len (E : PE) (hr : ∀ a b, (E.rn a b).length + 1 <= 10027010) : ∀ (f m i d a : Nat) (ns : List Nd), i <= E.l.length -> (m = 5 -> i < E.l.length) -> PF E f m i d = .inl (a, ns) -> (m = 0 ∨ m = 2 ∨ m = 4 ∨ m = 5 -> ns.length + 1 <= 10027010 * (a - i)) /\ ns.length <= 10027010 * (a - i) := by
 intro f
 induction f with
 | zero => intro m i d a ns _ _ h; rw [PF] at h; cases h
 | succ f ih =>
  intro m i d a ns hi h5 h
  rw [PF] at h
  by_cases m0 : m = 0
  ·rw [if_pos m0] at h
   obtain ⟨a1, n1, r1, h⟩ := zaB h
   obtain ⟨n2, r2, e2⟩ := zaN h
   obtain ⟨x1, x2, x3⟩ := zbh E _ _ _ _ _ _ hi (by omega) r1
   obtain ⟨y1, y2, _⟩ := zbh E _ _ _ _ _ _ x2 (by omega) r2
   obtain ⟨u1, u2⟩ := ih _ _ _ _ _ hi (by omega) r1
   obtain ⟨v1, v2⟩ := ih _ _ _ _ _ x2 (by omega) r2
   have := u1 (by omega)
   dsimp only at y1 y2 e2 v2
   rw [e2, List.length_append]
   exact ⟨fun _ => by omega, by omega⟩
  rw [if_neg m0] at h
  by_cases m1 : m = 1
  ·rw [if_pos m1] at h
   by_cases k7 : kdA E i = 7
   ·have hlt := zbi (E := E) (i := i) (by omega)
    rw [if_pos k7] at h
    obtain ⟨a1, n1, r1, h⟩ := zaB h
    obtain ⟨n2, r2, e2⟩ := zaN h
    obtain ⟨x1, x2, x3⟩ := zbh E _ _ _ _ _ _ (by omega) (by omega) r1
    obtain ⟨y1, y2, _⟩ := zbh E _ _ _ _ _ _ x2 (by omega) r2
    obtain ⟨u1, u2⟩ := ih _ _ _ _ _ (by omega) (by omega) r1
    obtain ⟨v1, v2⟩ := ih _ _ _ _ _ x2 (by omega) r2
    have := u1 (by omega)
    dsimp only at y1 y2 e2 v2
    rw [e2, List.length_append, List.length_append, List.length_singleton]
    exact ⟨fun q => by omega, by omega⟩
   ·rw [if_neg k7] at h
    cases h
    exact ⟨fun q => by omega, by simp⟩
  rw [if_neg m1] at h
  by_cases m2 : m = 2
  ·rw [if_pos m2] at h
   obtain ⟨a1, n1, r1, h⟩ := zaB h
   obtain ⟨n2, r2, e2⟩ := zaN h
   obtain ⟨x1, x2, x3⟩ := zbh E _ _ _ _ _ _ hi (by omega) r1
   obtain ⟨y1, y2, _⟩ := zbh E _ _ _ _ _ _ x2 (by omega) r2
   obtain ⟨u1, u2⟩ := ih _ _ _ _ _ hi (by omega) r1
   obtain ⟨v1, v2⟩ := ih _ _ _ _ _ x2 (by omega) r2
   have := u1 (by omega)
   dsimp only at y1 y2 e2 v2
   rw [e2, List.length_append]
   exact ⟨fun _ => by omega, by omega⟩
  rw [if_neg m2] at h
  by_cases m3 : m = 3
  ·rw [if_pos m3] at h
   by_cases kb : bgn E i = true
   ·have hlt := zcz kb
    rw [if_pos kb] at h
    obtain ⟨a1, n1, r1, h⟩ := zaB h
    obtain ⟨n2, r2, e2⟩ := zaN h
    obtain ⟨x1, x2, x3⟩ := zbh E _ _ _ _ _ _ (by omega) (by omega) r1
    obtain ⟨y1, y2, _⟩ := zbh E _ _ _ _ _ _ x2 (by omega) r2
    obtain ⟨u1, u2⟩ := ih _ _ _ _ _ (by omega) (by omega) r1
    obtain ⟨v1, v2⟩ := ih _ _ _ _ _ x2 (by omega) r2
    have := u1 (by omega)
    dsimp only at y1 y2 e2 v2
    rw [e2, List.length_append, List.length_append, List.length_singleton]
    exact ⟨fun q => by omega, by omega⟩
   ·rw [if_neg kb] at h
    cases h
    exact ⟨fun q => by omega, by simp⟩
  rw [if_neg m3] at h
  by_cases m4 : m = 4
  ·rw [if_pos m4] at h
   by_cases kb : bgn E i = true
   ·have hlt := zcz kb
    rw [if_pos kb] at h
    by_cases k8 : kdA E i = 8 ∨ kdA E i = 9
    ·rw [if_pos k8] at h
     split at h
     ·cases h
     ·obtain ⟨a1, n1, r1, h⟩ := zaB h
      cases h
      obtain ⟨x1, x2, x3⟩ := zbh E _ _ _ _ _ _ (by omega) (by omega) r1
      obtain ⟨u1, u2⟩ := ih _ _ _ _ _ (by omega) (by omega) r1
      have := u1 (by omega)
      rw [List.length_append, List.length_singleton]
      exact ⟨fun _ => by omega, by omega⟩
    ·rw [if_neg k8] at h
     obtain ⟨a1, n1, r1, h⟩ := zaB h
     obtain ⟨n2, r2, e2⟩ := zaN h
     obtain ⟨x1, x2, x3⟩ := zbh E _ _ _ _ _ _ (by omega) (fun _ => hlt) r1
     obtain ⟨y1, y2, _⟩ := zbh E _ _ _ _ _ _ x2 (by omega) r2
     obtain ⟨u1, u2⟩ := ih _ _ _ _ _ (by omega) (fun _ => hlt) r1
     obtain ⟨v1, v2⟩ := ih _ _ _ _ _ x2 (by omega) r2
     have := u1 (by omega)
     dsimp only at y1 y2 e2 v2
     rw [e2, List.length_append]
     exact ⟨fun _ => by omega, by omega⟩
   ·rw [if_neg kb] at h; cases h
  rw [if_neg m4] at h
  by_cases m5 : m = 5
  ·rw [if_pos m5] at h
   have hlt := h5 m5
   cases hp : za2 E i with
   | inl p =>
    rw [hp] at h
    cases h
    have h1 := zgY hlt hp
    have h2 := zkg hr hp
    exact ⟨fun _ => by omega, by omega⟩
   | inr p =>
    rw [hp] at h
    dsimp only at h
    have h2 := zi6 hp
    split at h
    ·cases h
    ·obtain ⟨a1, n1, r1, h⟩ := zaB h
     obtain ⟨x1, x2, x3⟩ := zbh E _ _ _ _ _ _ (by omega) (by omega) r1
     obtain ⟨u1, u2⟩ := ih _ _ _ _ _ (by omega) (by omega) r1
     have := u1 (by omega)
     split at h
     ·cases h
      rw [List.length_append]
      exact ⟨fun _ => by omega, by omega⟩
     ·cases h
  rw [if_neg m5] at h
  cases hp : zdE E i with
  | inr q =>
   rw [hp] at h
   cases q with
   | none => cases h; exact ⟨fun q => by omega, by simp⟩
   | some c => cases h
  | inl p =>
   rw [hp] at h
   dsimp only at h
   obtain ⟨n2, r2, e2⟩ := zaN h
   have h1 := zhW hp
   obtain ⟨y1, y2, _⟩ := zbh E _ _ _ _ _ _ h1.2 (by omega) r2
   obtain ⟨v1, v2⟩ := ih _ _ _ _ _ h1.2 (by omega) r2
   dsimp only at y1 y2 e2 v2
   rw [e2, List.length_append, List.length_singleton]
   exact ⟨fun q => by omega, by omega⟩
theorem zdn {E : PE} (hr : ∀ a b, (E.rn a b).length + 1 <= 10027010) {m i d a : Nat} {ns : List Nd} (hi : i <= E.l.length) (h5 : m = 5 -> i < E.l.length) (h : gN E m i d = .inl (a, ns)) : (m = 0 ∨ m = 2 ∨ m = 4 ∨ m = 5 -> ns.length + 1 <= 10027010 * (a - i)) /\ ns.length <= 10027010 * (a - i) := PF_len E hr _ _ _ _ _ _ hi h5 h
theorem zkh (a b : Int) : (rnP a b).length + 1 <= 10027010 := by
 unfold rnP
 rw [List.length_map]
 have h1 := R.zh4 a b 5
 rw [R.zfy] at h1
 unfold R.zjB
 split
 ·simp
 ·have h2 := R.zh7 (R.zdj a b) (R.zdj a b).length (fun s hs => (R.zet a b s hs).2.2)
  omega
structure OkE (E : PE) : Prop where
 len : E.l.length <= 65536
 rn : E.rn = rnP
 tm : E.tm = T.tmB
 rg : ∀ t ∈ E.l, t.kd = 5 -> 0 <= t.nn /\ t.nn <= t.s0 /\ t.s0 <= 1114111
 tx : ∀ t ∈ E.l, t.tx.size <= 65536
 n0 : ∀ t ∈ E.l, t.kd = 10 ∨ t.kd = 11 ∨ t.kd = 12 -> t.nn = 0
theorem OkE.rl {E : PE} (h : OkE E) : ∀ a b, (E.rn a b).length + 1 <= 10027010 := fun a b => by rw [h.rn]; exact zkh a b
theorem OkE.z {E : PE} (h : OkE E) : E.l.length <= 1000000 := Nat.le_trans h.len (by omega)
def PoR (E : PE) (z : Nat) (w0 : World) (b : Nat) (tv : Value) (d : Nat) (W : World) (v : Value) (L : List Nd) (r : PR) (e : Ending) (W' : World) : Prop := match r with
 | .inl p => e = .returned (.tuple #[]) /\ ∃ v', RS E z w0 W' b tv p.1 d v' (L ++ p.2) /\ Fr W W' b v v'
 | .inr q => e = pnc (plA E z q.1) q.2 /\ Below w0.heap.size w0 W'
def Ct (F : Nat) (E : PE) (z : Nat) (w0 : World) (b : Nat) (tv : Value) (i d : Nat) (r : PR) : Prop :=
 ∀ (W : World) (v : Value) (L : List Nd), RS E z w0 W b tv i d v L -> L.length <= 10027010 * i -> Calls Tryz.prog F #[.pointer (some ⟨b, 0, none⟩)] W fun e W' => PoR E z w0 b tv d W v L r e W'
def nxt (b : Nat) (W : World) : Nat := match W.cell? ⟨b, 1, none⟩ with
 | some (.int .i64 i) => i.toNat
 | _ => 0
theorem RS.nx {E : PE} {z : Nat} {w0 W : World} {b : Nat} {tv : Value} {i d : Nat} {v : Value} {L : List Nd} (h : RS E z w0 W b tv i d v L) : nxt b W = i := by
 unfold nxt
 rw [h.x.cl.2.1]
 rfl
theorem zfD {E : PE} {z : Nat} {w0 W : World} {b : Nat} {tv : Value} {i d : Nat} {v : Value} {L : List Nd} (h : RS E z w0 W b tv i d v L) (n : Nd) (hl : L.length + 1 <= 2000000000000) :
  Calls Tryz.prog 119 #[.pointer (some ⟨b, 0, none⟩), .slice (some ⟨W.heap.size, 0, none⟩) 1 1] (W.alloc (.cells #[.int .i64 n.op, .int .i64 n.nn, .string n.tx, .int .u64 n.s0, .int .u64 n.s1, .int .u64 n.s2, .int .u64 n.s3] 51)) fun e W' => e = .returned (.tuple #[]) /\ ∃ v', RS E z w0 W' b tv i d v' (L ++ [n]) /\ Fr W W' b v v' := by
 refine (zj2 (h.later (zaa W _)) [n] W.heap.size 1 (by simp) hl (by rw [T.zek]; exact World.news_of_block (t := 51) (fr := (0, 0)) (heap_alloc_new W _))).mono ?_
 rintro e w' ⟨h1, v', h2, h3⟩
 exact ⟨h1, v', h2, (Fr.below b v (zaa W _)).trans h3⟩
theorem zki {E : PE} (hE : OkE E) {z : Nat} {w0 : World} {b : Nat} {tv : Value} {i d : Nat} (HS0 : ∀ a, i <= a -> a <= E.l.length -> Ct 118 E z w0 b tv a d (gN E 2 a d)) : Ct 89 E z w0 b tv i d (gN E 0 i d) := by
 intro W v L h hL
 have hi := h.hi
 have hlen := hE.len
 have HS : Hid (∀ a, i <= a -> a <= E.l.length -> Ct 118 E z w0 b tv a d (gN E 2 a d)) := HS0
 have H := hO h
 have HE := hO hE
 have HC : Hid (∀ _ : Unit, Calls Tryz.prog 118 #[.pointer (some ⟨b, 0, none⟩)] W fun e W' => PoR E z w0 b tv d W v L (gN E 2 i d) e W') := fun _ => HS0 i (Nat.le_refl _) hi W v L h hL
 have HG := hO (g0 E i d hi)
 clear h hE HS0
 cases hr : gN E 2 i d with
 | inr q =>
  rw [hr] at HC HG
  have HV : Hid (gN E 0 i d = .inr q) := HG.out
  rw [HV.out]
  clear HG hr HS
  go_enter Tryz.func89, Tryz.ntmps89
  go_wp2_with fail
  refine (HC.out ()).mono ?_
  rintro e w1 ⟨rfl, hb⟩
  exact zac rfl ⟨rfl, hb⟩
 | inl p =>
  obtain ⟨a, ns⟩ := p
  rw [hr] at HC HG
  have hadv := zdN hi (by omega) hr
  have hlenN := (zdn HE.out.rl hi (by omega) hr).1 (by omega)
  have HV : Hid (gN E 0 i d = ahd ns (gN E 1 a d)) := HG.out
  generalize gN E 0 i d = R0 at *
  have hia := hadv.2.2 (by omega)
  have hal := hadv.2.1
  clear HG hr hadv
  go_enter Tryz.func89, Tryz.ntmps89
  go_wp2_with fail
  refine (HC.out ()).mono ?_
  rintro e w1 ⟨rfl, v1, h1, hf1⟩
  have H1 := hO h1
  have HF1 : Hid (Fr W w1 b v v1) := hf1
  obtain ⟨v0, hv0⟩ : ∃ u, u = v := ⟨_, rfl⟩
  rw [<- hv0] at HF1
  clear HC h1 hf1
  go_wp2_with fail
  go_loopw [4] (fun _ wr => ∃ (a : Nat) (v : Value) (M : List Nd), i < a /\ a <= E.l.length /\ (L ++ M).length <= 10027010 * a /\ Hid (RS E z w0 wr b tv a d v (L ++ M)) /\ Hid (Fr W wr b v0 v) /\ Hid (R0 = ahd M (gN E 1 a d))) (fun _ wr => E.l.length - nxt b wr)
  case atStart => exact ⟨a, v1, ns, hia, hal, by rw [List.length_append]; omega, H1, HF1, HV⟩
  case round =>
   obtain ⟨a, v, M, ha1, ha2, hlm, HW, HFW, HR⟩ := hrel
   clear H1 HF1 HV hia hal hlenN
   have HGa := hO (g1 E a d ha2)
   obtain ⟨t, ht, hk, _, _⟩ := zam E z ha2
   have HH : Hid (∀ _ : Unit, Calls Tryz.prog 62 #[.pointer (some ⟨b, 0, none⟩)] wr fun e W' => e = .returned (.agg #[.int .i64 t.kd, .int .i64 t.nn, .int .i64 t.fr, .int .i64 t.en, .string t.tx, .int .u64 t.s0, .int .u64 t.s1, .int .u64 t.s2, .int .u64 t.s3]) /\ Below wr.heap.size wr W') := fun _ => zaq HW.out t ht
   have fl0 := zjz
   have hz := HE.out.z
   by_cases hkk : kdA E a = 7
   ·have hlt := zbi (E := E) (i := a) (by omega)
    rw [hk.trans hkk] at HH
    have HP : Hid (∀ W, RS E z w0 W b tv a d v (L ++ M) -> Calls Tryz.prog 90 #[.pointer (some ⟨b, 0, none⟩), .int .i64 7] W fun e W' => e = .returned (.tuple #[]) /\ RS E z w0 W' b tv (a + 1) d v (L ++ M) /\ Fr W W' b v v) := fun W h => by
     have := zcp h hlt hz
     rw [hkk] at this
     exact this
    clear ht hk
    have HSa : Hid (∀ W, RS E z w0 W b tv (a + 1) d v (L ++ M) -> Calls Tryz.prog 118 #[.pointer (some ⟨b, 0, none⟩)] W fun e W' => PoR E z w0 b tv d W v (L ++ M) (gN E 2 (a + 1) d) e W') := fun W h => HS.out (a + 1) (by omega) (by omega) W v _ h (by omega)
    cases hr : gN E 2 (a + 1) d with
    | inr q =>
     have HV : Hid (R0 = .inr q) := by
      show R0 = _
      rw [HR.out, HGa.out, if_pos hkk, hr]
      rfl
     rw [hr] at HSa
     clear HR HGa hr hkk
     go_wp2_with fail
     refine (HH.out ()).mono ?_
     rintro e w1 ⟨rfl, hb⟩
     have HY := hO (HW.out.later hb)
     have HFY : Hid (Fr wr w1 b v v) := Fr.below b v hb
     clear hb HH
     go_wp2_with fail
     refine (HP.out _ HY.out).mono ?_
     rintro e w2 ⟨rfl, h2, hf2⟩
     have HX := hO h2
     have HFX : Hid (Fr wr w2 b v v) := HFY.out.trans hf2
     clear h2 hf2 HY HFY HP
     go_wp2_with fail
     refine (HSa.out _ HX.out).mono ?_
     rintro e w3 ⟨rfl, hb⟩
     exact zac (P := Tryz.prog) (fn := Tryz.f89) rfl (by subst hv0; show PoR E z w0 b tv d W _ L R0 _ _; rw [HV.out]; exact ⟨rfl, hb⟩)
    | inl p =>
     obtain ⟨a2, ns2⟩ := p
     have hadv := zdN (i := a + 1) (by omega) (by omega) hr
     have hln := (zdn HE.out.rl (i := a + 1) (by omega) (by omega) hr).1 (by omega)
     have hia := hadv.2.2 (by omega)
     have hal := hadv.2.1
     have HV : Hid (R0 = ahd (M ++ (ns2 ++ [nd0 8])) (gN E 1 a2 d)) := by
      show R0 = _
      rw [HR.out, HGa.out, if_pos hkk, hr]
      show ahd M (ahd (ns2 ++ [nd0 8]) (gN E 1 a2 d)) = _
      rw [zc5]
     rw [hr] at HSa
     have HPu : Hid (∀ W v, RS E z w0 W b tv a2 d v (L ++ M ++ ns2) -> Calls Tryz.prog 119 #[.pointer (some ⟨b, 0, none⟩), .slice (some ⟨W.heap.size, 0, none⟩) 1 1] (W.alloc (.cells #[.int .i64 8, .int .i64 0, .string ⟨#[]⟩, .int .u64 0, .int .u64 0, .int .u64 0, .int .u64 0] 51)) fun e W' => e = .returned (.tuple #[]) /\ ∃ v', RS E z w0 W' b tv a2 d v' (L ++ (M ++ (ns2 ++ [nd0 8]))) /\ Fr W W' b v v') := fun W v h => by
      have := zfD h (nd0 8) (by rw [List.length_append]; omega)
      rw [List.append_assoc, List.append_assoc] at this
      exact this
     have hll : (L ++ (M ++ (ns2 ++ [nd0 8]))).length <= 10027010 * a2 := by
      rw [List.length_append] at hlm
      rw [List.length_append, List.length_append, List.length_append, List.length_singleton]
      omega
     clear HR HGa hr hkk hadv hln
     go_wp2_with fail
     refine (HH.out ()).mono ?_
     rintro e w1 ⟨rfl, hb⟩
     have HY := hO (HW.out.later hb)
     have HFY : Hid (Fr wr w1 b v v) := Fr.below b v hb
     clear hb HH
     go_wp2_with fail
     refine (HP.out _ HY.out).mono ?_
     rintro e w2 ⟨rfl, h2, hf2⟩
     have HX := hO h2
     have HFX : Hid (Fr wr w2 b v v) := HFY.out.trans hf2
     clear h2 hf2 HY HFY HP
     go_wp2_with fail
     refine (HSa.out _ HX.out).mono ?_
     rintro e w3 ⟨rfl, v3, h3, hf3⟩
     have H3 := hO h3
     have HF3 : Hid (Fr W w3 b v0 v3) := HFW.out.trans (HFX.out.trans hf3)
     clear h3 hf3 HX HSa HFX
     go_wp2_with fail
     refine (HPu.out _ _ H3.out).mono ?_
     rintro e w4 ⟨rfl, v4, h4, hf4⟩
     have H4 := hO h4
     have HF4 : Hid (Fr W w4 b v0 v4) := HF3.out.trans hf4
     clear h4 hf4 H3 HF3 HPu
     go_wp2_with fail
     go_roundw
     case rel => exact ⟨a2, v4, _, by omega, hal, hll, H4, HF4, HV⟩
     case measure => rw [HW.out.nx, H4.out.nx]; omega
   ·have HV : Hid (R0 = .inl (a, M)) := by
     show R0 = _
     rw [HR.out, HGa.out, if_neg hkk]
     show Sum.inl (a, M ++ []) = _
     rw [List.append_nil]
    have t1 : (t.kd == 7) = false := by rw [hk]; exact bF hkk
    clear HR HGa hkk ht hk HS
    go_wp2_with fail
    refine (HH.out ()).mono ?_
    rintro e w2 ⟨rfl, hb⟩
    have HY := hO (HW.out.later hb)
    have HFY : Hid (Fr wr w2 b v v) := Fr.below b v hb
    clear hb HH HW
    go_wp2_with fail
    go_end0
    subst hv0; show PoR E z w0 b tv d W _ L R0 _ _
    rw [HV.out]
    exact ⟨rfl, _, HY.out, HFW.out.trans HFY.out⟩
theorem zkj {E : PE} (hE : OkE E) {z : Nat} {w0 : World} {b : Nat} {tv : Value} {i d : Nat} (HS0 : ∀ a, i <= a -> a <= E.l.length -> Ct 145 E z w0 b tv a d (gN E 4 a d)) : Ct 118 E z w0 b tv i d (gN E 2 i d) := by
 intro W v L h hL
 have hi := h.hi
 have hlen := hE.len
 have HS : Hid (∀ a, i <= a -> a <= E.l.length -> Ct 145 E z w0 b tv a d (gN E 4 a d)) := HS0
 have H := hO h
 have HE := hO hE
 have HC : Hid (∀ _ : Unit, Calls Tryz.prog 145 #[.pointer (some ⟨b, 0, none⟩)] W fun e W' => PoR E z w0 b tv d W v L (gN E 4 i d) e W') := fun _ => HS0 i (Nat.le_refl _) hi W v L h hL
 have HG := hO (g2 E i d hi)
 clear h hE HS0
 cases hr : gN E 4 i d with
 | inr q =>
  rw [hr] at HC HG
  have HV : Hid (gN E 2 i d = .inr q) := HG.out
  rw [HV.out]
  clear HG hr HS
  go_enter Tryz.func118, Tryz.ntmps118
  go_wp2_with fail
  refine (HC.out ()).mono ?_
  rintro e w1 ⟨rfl, hb⟩
  exact zac rfl ⟨rfl, hb⟩
 | inl p =>
  obtain ⟨a, ns⟩ := p
  rw [hr] at HC HG
  have hadv := zdN hi (by omega) hr
  have hlenN := (zdn HE.out.rl hi (by omega) hr).1 (by omega)
  have HV : Hid (gN E 2 i d = ahd ns (gN E 3 a d)) := HG.out
  generalize gN E 2 i d = R0 at *
  have hia := hadv.2.2 (by omega)
  have hal := hadv.2.1
  clear HG hr hadv
  go_enter Tryz.func118, Tryz.ntmps118
  go_wp2_with fail
  refine (HC.out ()).mono ?_
  rintro e w1 ⟨rfl, v1, h1, hf1⟩
  have H1 := hO h1
  have HF1 : Hid (Fr W w1 b v v1) := hf1
  obtain ⟨v0, hv0⟩ : ∃ u, u = v := ⟨_, rfl⟩
  rw [<- hv0] at HF1
  clear HC h1 hf1
  go_wp2_with fail
  go_loopw [4] (fun _ wr => ∃ (a : Nat) (v : Value) (M : List Nd), i < a /\ a <= E.l.length /\ (L ++ M).length <= 10027010 * a /\ Hid (RS E z w0 wr b tv a d v (L ++ M)) /\ Hid (Fr W wr b v0 v) /\ Hid (R0 = ahd M (gN E 3 a d))) (fun _ wr => E.l.length - nxt b wr)
  case atStart => exact ⟨a, v1, ns, hia, hal, by rw [List.length_append]; omega, H1, HF1, HV⟩
  case round =>
   obtain ⟨a, v, M, ha1, ha2, hlm, HW, HFW, HR⟩ := hrel
   clear H1 HF1 HV hia hal hlenN
   have HGa := hO (g3 E a d ha2)
   have hz := HE.out.z
   have HH : Hid (∀ _ : Unit, Calls Tryz.prog 146 #[.pointer (some ⟨b, 0, none⟩)] wr fun e W' => e = .returned (.bool (bgn E a)) /\ Below wr.heap.size wr W') := fun _ => zft HW.out hz
   by_cases hkk : bgn E a = true
   ·have hlt := zcz hkk
    rw [hkk] at HH
    have HSa : Hid (∀ W, RS E z w0 W b tv (a) d v (L ++ M) -> Calls Tryz.prog 145 #[.pointer (some ⟨b, 0, none⟩)] W fun e W' => PoR E z w0 b tv d W v (L ++ M) (gN E 4 (a) d) e W') := fun W h => HS.out (a) (by omega) (by omega) W v _ h (by omega)
    cases hr : gN E 4 (a) d with
    | inr q =>
     have HV : Hid (R0 = .inr q) := by
      show R0 = _
      rw [HR.out, HGa.out, if_pos hkk, hr]
      rfl
     rw [hr] at HSa
     clear HR HGa hr hkk
     go_wp2_with fail
     refine (HH.out ()).mono ?_
     rintro e w1 ⟨rfl, hb⟩
     have HX := hO (HW.out.later hb)
     have HFX : Hid (Fr wr w1 b v v) := Fr.below b v hb
     clear hb HH
     go_wp2_with fail
     refine (HSa.out _ HX.out).mono ?_
     rintro e w3 ⟨rfl, hb⟩
     exact zac (P := Tryz.prog) (fn := Tryz.f118) rfl (by subst hv0; show PoR E z w0 b tv d W _ L R0 _ _; rw [HV.out]; exact ⟨rfl, hb⟩)
    | inl p =>
     obtain ⟨a2, ns2⟩ := p
     have hadv := zdN (i := a) (by omega) (by omega) hr
     have hln := (zdn HE.out.rl (i := a) (by omega) (by omega) hr).1 (by omega)
     have hia := hadv.2.2 (by omega)
     have hal := hadv.2.1
     have HV : Hid (R0 = ahd (M ++ (ns2 ++ [nd0 7])) (gN E 3 a2 d)) := by
      show R0 = _
      rw [HR.out, HGa.out, if_pos hkk, hr]
      show ahd M (ahd (ns2 ++ [nd0 7]) (gN E 3 a2 d)) = _
      rw [zc5]
     rw [hr] at HSa
     have HPu : Hid (∀ W v, RS E z w0 W b tv a2 d v (L ++ M ++ ns2) -> Calls Tryz.prog 119 #[.pointer (some ⟨b, 0, none⟩), .slice (some ⟨W.heap.size, 0, none⟩) 1 1] (W.alloc (.cells #[.int .i64 7, .int .i64 0, .string ⟨#[]⟩, .int .u64 0, .int .u64 0, .int .u64 0, .int .u64 0] 51)) fun e W' => e = .returned (.tuple #[]) /\ ∃ v', RS E z w0 W' b tv a2 d v' (L ++ (M ++ (ns2 ++ [nd0 7]))) /\ Fr W W' b v v') := fun W v h => by
      have := zfD h (nd0 7) (by rw [List.length_append]; omega)
      rw [List.append_assoc, List.append_assoc] at this
      exact this
     have hll : (L ++ (M ++ (ns2 ++ [nd0 7]))).length <= 10027010 * a2 := by
      rw [List.length_append] at hlm
      rw [List.length_append, List.length_append, List.length_append, List.length_singleton]
      omega
     clear HR HGa hr hkk hadv hln
     go_wp2_with fail
     refine (HH.out ()).mono ?_
     rintro e w1 ⟨rfl, hb⟩
     have HX := hO (HW.out.later hb)
     have HFX : Hid (Fr wr w1 b v v) := Fr.below b v hb
     clear hb HH
     go_wp2_with fail
     refine (HSa.out _ HX.out).mono ?_
     rintro e w3 ⟨rfl, v3, h3, hf3⟩
     have H3 := hO h3
     have HF3 : Hid (Fr W w3 b v0 v3) := HFW.out.trans (HFX.out.trans hf3)
     clear h3 hf3 HX HSa HFX
     go_wp2_with fail
     refine (HPu.out _ _ H3.out).mono ?_
     rintro e w4 ⟨rfl, v4, h4, hf4⟩
     have H4 := hO h4
     have HF4 : Hid (Fr W w4 b v0 v4) := HF3.out.trans hf4
     clear h4 hf4 H3 HF3 HPu
     go_wp2_with fail
     go_roundw
     case rel => exact ⟨a2, v4, _, by omega, hal, hll, H4, HF4, HV⟩
     case measure => rw [HW.out.nx, H4.out.nx]; omega
   ·have HV : Hid (R0 = .inl (a, M)) := by
     show R0 = _
     rw [HR.out, HGa.out, if_neg hkk]
     show Sum.inl (a, M ++ []) = _
     rw [List.append_nil]
    rw [Bool.eq_false_iff.2 hkk] at HH
    clear HR HGa hkk HS
    go_wp2_with fail
    refine (HH.out ()).mono ?_
    rintro e w2 ⟨rfl, hb⟩
    have HY := hO (HW.out.later hb)
    have HFY : Hid (Fr wr w2 b v v) := Fr.below b v hb
    clear hb HH HW
    go_wp2_with fail
    go_end0
    subst hv0; show PoR E z w0 b tv d W _ L R0 _ _
    rw [HV.out]
    exact ⟨rfl, _, HY.out, HFW.out.trans HFY.out⟩
end Go.Proofs.YtnpifgcgjgddoaaGreatDoor.N
