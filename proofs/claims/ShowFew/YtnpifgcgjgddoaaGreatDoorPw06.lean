/- DERIVED. Plain mathematics and walks, laid together (6). -/
import Derived.Deep.AppendLies
import Derived.Maps.Range
import Derived.OwnWalk
import Derived.ProofKit
import Derived.BigQuiet
import Derived.WalkSmall
import Derived.Deep.RegionHeld3
import Derived.LoopN
import Derived.Test.YtnpifgcgjgddoaaGreatDoorPw05
set_option maxRecDepth 100000
set_option maxHeartbeats 8000000
namespace Go.Proofs.YtnpifgcgjgddoaaGreatDoor.R
open Go.RowKit
def zcE (lo hi m : Int) : Option Int :=
 if lo / m = hi / m then none else if lo % m ≠ 0 then some ((lo / m + 1) * m) else if (hi + 1) % m ≠ 0 then some (hi / m * m) else none
def zc9 (lo hi : Int) : Nat -> Int -> Option Int
 | 0, _ => none
 | k + 1, m => match zcE lo hi (m * 64) with
  | some c => some c
  | none => zc9 lo hi k (m * 64)
def zdS (lo hi : Int) : Option Int := zc9 lo hi (szI lo - 1) 1
def Blk (lo hi : Int) : Prop := lo <= hi /\ ((0 <= lo /\ hi <= 127) ∨ (128 <= lo /\ hi <= 2047) ∨ (2048 <= lo /\ hi <= 55295) ∨ (57344 <= lo /\ hi <= 65535) ∨ (65536 <= lo /\ hi <= 1114111))
theorem zj8 {lo hi m c : Int} (hm : m = 64 ∨ m = 4096 ∨ m = 262144) (_h0 : 0 <= lo) (h1 : lo <= hi) (h : zcE lo hi m = some c) : lo < c /\ c <= hi := by
 unfold zcE at h
 split at h
 ·cases h
 ·split at h
  ·cases h; rcases hm with rfl | rfl | rfl <;> omega
  ·split at h
   ·cases h; rcases hm with rfl | rfl | rfl <;> omega
   ·cases h
theorem zic {lo hi c : Int} (h0 : 0 <= lo) (h1 : lo <= hi) : ∀ (k : Nat) (m : Int), (k <= 3 /\ m = 1 ∨ k <= 2 /\ m = 64 ∨ k <= 1 /\ m = 4096 ∨ k = 0) -> zc9 lo hi k m = some c -> lo < c /\ c <= hi
 | 0, _, _, h => by cases h
 | k + 1, m, hk, h => by
  rw [zc9] at h
  split at h
  ·next c' hc => cases h; exact zj8 (by omega) h0 h1 hc
  ·exact zic h0 h1 k (m * 64) (by omega) h
theorem zbK {lo hi c : Int} (h0 : 0 <= lo) (h1 : lo <= hi) (h : zdS lo hi = some c) : lo < c /\ c <= hi :=
 zic h0 h1 _ _ (.inl ⟨by have := zfk lo; omega, rfl⟩) h
theorem zja {lo hi : Int} {k : Nat} {m : Int} (h : zcE lo hi (m * 64) = none) : zc9 lo hi (k + 1) m = zc9 lo hi k (m * 64) := by rw [zc9, h]
theorem zjb {lo hi c : Int} {k : Nat} {m : Int} (h : zcE lo hi (m * 64) = some c) : zc9 lo hi (k + 1) m = some c := by rw [zc9, h]
theorem Blk.cut {lo hi c : Int} (h : Blk lo hi) (hc : zdS lo hi = some c) : Blk lo (c - 1) /\ Blk c hi := by
 unfold Blk at *
 have := zbK (by omega) h.1 hc
 omega
theorem Blk.cpl {lo hi : Int} (h : Blk lo hi) : cp lo /\ cp hi /\ szI lo = szI hi /\ 0 <= lo /\ lo <= hi /\ hi <= 1114111 := by
 unfold Blk at h; unfold cp szI
 refine ⟨by omega, by omega, ?_, by omega, by omega, by omega⟩
 repeat' split
 all_goals omega
def pcs : Nat -> Int -> Int -> List (Int × Int)
 | 0, lo, hi => [(lo, hi)]
 | f + 1, lo, hi => match zdS lo hi with
  | none => [(lo, hi)]
  | some c => pcs f lo (c - 1) ++ pcs f c hi
abbrev zbe := List (Int × Int)
def shp (p : Int × Int) : zbe := (enL p.1).zip (enL p.2)
def shs (lo hi : Int) : List zbe := (pcs (hi - lo).toNat lo hi).map shp
theorem zbA {f : Nat} {lo hi : Int} (h : zdS lo hi = none) : pcs f lo hi = [(lo, hi)] := by
 cases f with
 | zero => rfl
 | succ f => rw [pcs, h]
theorem zdh {f : Nat} {lo hi c : Int} (h : zdS lo hi = some c) : pcs (f + 1) lo hi = pcs f lo (c - 1) ++ pcs f c hi := by rw [pcs, h]
theorem zdZ : ∀ (f g : Nat) (lo hi : Int), 0 <= lo -> lo <= hi -> (hi - lo).toNat <= f -> (hi - lo).toNat <= g -> pcs f lo hi = pcs g lo hi
 | 0, g, lo, hi, h0, h1, hf, _ => by
  cases hs : zdS lo hi with
  | none => rw [zbA hs, zbA hs]
  | some c => have := zbK h0 h1 hs; omega
 | f + 1, 0, lo, hi, h0, h1, _, hg => by
  cases hs : zdS lo hi with
  | none => rw [zbA hs, zbA hs]
  | some c => have := zbK h0 h1 hs; omega
 | f + 1, g + 1, lo, hi, h0, h1, hf, hg => by
  cases hs : zdS lo hi with
  | none => rw [zbA hs, zbA hs]
  | some c =>
   have := zbK h0 h1 hs
   rw [zdh hs, zdh hs, zdZ f g lo (c - 1) h0 (by omega) (by omega) (by omega), zdZ f g c hi (by omega) (by omega) (by omega) (by omega)]
theorem zmo {lo hi : Int} (h : zdS lo hi = none) : shs lo hi = [shp (lo, hi)] := by unfold shs; rw [zbA h]; rfl
theorem zmp {lo hi c : Int} (h0 : 0 <= lo) (h1 : lo <= hi) (h : zdS lo hi = some c) : shs lo hi = shs lo (c - 1) ++ shs c hi := by
 have hb := zbK h0 h1 h
 unfold shs
 rw [<- List.map_append]
 obtain ⟨f, hf⟩ : ∃ f, (hi - lo).toNat = f + 1 := ⟨(hi - lo).toNat - 1, by omega⟩
 rw [hf, zdh h, zdZ f _ lo (c - 1) h0 (by omega) (by omega) (Nat.le_refl _), zdZ f _ c hi (by omega) (by omega) (by omega) (Nat.le_refl _)]
theorem zht : ∀ (f : Nat) (lo hi : Int), 0 <= lo -> lo <= hi -> 1 <= (pcs f lo hi).length /\ ((pcs f lo hi).length : Int) <= hi - lo + 1
 | 0, lo, hi, _, h1 => by
  constructor
  ·show 1 <= 1; omega
  ·show ((1 : Nat) : Int) <= _; omega
 | f + 1, lo, hi, h0, h1 => by
  cases hs : zdS lo hi with
  | none =>
   rw [zbA hs]
   constructor
   ·show 1 <= 1; omega
   ·show ((1 : Nat) : Int) <= _; omega
  | some c =>
   have := zbK h0 h1 hs
   have a := zht f lo (c - 1) h0 (by omega)
   have b := zht f c hi (by omega) (by omega)
   rw [zdh hs, List.length_append]
   omega
theorem zj9 {lo hi : Int} (h0 : 0 <= lo) (h1 : lo <= hi) : 1 <= (shs lo hi).length /\ ((shs lo hi).length : Int) <= hi - lo + 1 := by
 unfold shs; rw [List.length_map]; exact zht _ lo hi h0 h1
theorem zhu {lo hi : Int} (h : Blk lo hi) : (shp (lo, hi)).length = szI lo := by
 obtain ⟨h1, h2, h3, _⟩ := h.cpl
 unfold shp
 rw [List.length_zip, zfI h1, zfI h2, <- h3, Nat.min_self]
def blks : List (Int × Int) := [(0, 127), (128, 2047), (2048, 55295), (57344, 65535), (65536, 1114111)]
def zgB (lo hi : Int) (b : Int × Int) : List zbe := if max b.1 lo <= min b.2 hi then shs (max b.1 lo) (min b.2 hi) else []
def zhg (lo hi : Int) (k : Nat) : List zbe := (blks.take k).flatMap (zgB lo hi)
def zdi (lo hi : Int) : List zbe := blks.flatMap (zgB lo hi)
theorem zfJ (lo hi : Int) : zhg lo hi 5 = zdi lo hi := rfl
theorem zka (lo hi : Int) (k : Nat) (b : Int × Int) (h : blks[k]? = some b) : zhg lo hi (k + 1) = zhg lo hi k ++ zgB lo hi b := by
 unfold zhg
 rw [List.take_add_one, h, List.flatMap_append]
 simp
theorem zkb {k : Nat} {b : Int × Int} (h : blks[k]? = some b) : 0 <= b.1 /\ b.1 <= b.2 /\ b.2 <= 1114111 /\ ∀ lo hi, max b.1 lo <= min b.2 hi -> Blk (max b.1 lo) (min b.2 hi) := by
 unfold Blk
 match k, h with
 | 0, h => cases h; exact ⟨by decide, by decide, by decide, fun lo hi _ => by omega⟩
 | 1, h => cases h; exact ⟨by decide, by decide, by decide, fun lo hi _ => by omega⟩
 | 2, h => cases h; exact ⟨by decide, by decide, by decide, fun lo hi _ => by omega⟩
 | 3, h => cases h; exact ⟨by decide, by decide, by decide, fun lo hi _ => by omega⟩
 | 4, h => cases h; exact ⟨by decide, by decide, by decide, fun lo hi _ => by omega⟩
theorem zkc (lo hi : Int) (b : Int × Int) (h0 : 0 <= b.1) (h1 : b.1 <= b.2) : ((zgB lo hi b).length : Int) <= b.2 - b.1 + 1 := by
 unfold zgB
 split
 ·next h => have := zj9 (lo := max b.1 lo) (hi := min b.2 hi) (by omega) h; omega
 ·show ((0 : Nat) : Int) <= _; omega
theorem zfK (lo hi : Int) (l : List (Int × Int)) (h : ∀ b ∈ l, 0 <= b.1 /\ b.1 <= b.2) : ((l.flatMap (zgB lo hi)).length : Int) <= (l.map fun b => b.2 - b.1 + 1).sum := by
 induction l with
 | nil => simp
 | cons b l ih =>
  rw [List.flatMap_cons, List.length_append, List.map_cons, List.sum_cons]
  have h1 := h b (List.mem_cons_self)
  have h2 := zkc lo hi b h1.1 h1.2
  have h3 := ih fun c hc => h c (List.mem_cons_of_mem _ hc)
  omega
theorem zpm : ∀ b ∈ blks, 0 <= b.1 /\ b.1 <= b.2 := by decide
theorem zkd (lo hi : Int) (k : Nat) : ((zhg lo hi k).length : Int) <= ((blks.take k).map fun b => b.2 - b.1 + 1).sum :=
 zfK lo hi (blks.take k) fun b hb => zpm b (List.mem_of_mem_take hb)
theorem zke (lo hi : Int) (k : Nat) (b : Int × Int) (h : blks[k]? = some b) : ((zhg lo hi k).length : Int) + (b.2 - b.1 + 1) <= 1114112 := by
 have h1 := zkd lo hi k
 match k, h, h1 with
 | 0, h, h1 =>
  cases h; have e : ((blks.take 0).map fun b => b.2 - b.1 + 1).sum = 0 := by decide
  rw [e] at h1; dsimp only; omega
 | 1, h, h1 =>
  cases h; have e : ((blks.take 1).map fun b => b.2 - b.1 + 1).sum = 128 := by decide
  rw [e] at h1; dsimp only; omega
 | 2, h, h1 =>
  cases h; have e : ((blks.take 2).map fun b => b.2 - b.1 + 1).sum = 2048 := by decide
  rw [e] at h1; dsimp only; omega
 | 3, h, h1 =>
  cases h; have e : ((blks.take 3).map fun b => b.2 - b.1 + 1).sum = 55296 := by decide
  rw [e] at h1; dsimp only; omega
 | 4, h, h1 =>
  cases h; have e : ((blks.take 4).map fun b => b.2 - b.1 + 1).sum = 63488 := by decide
  rw [e] at h1; dsimp only; omega
theorem zid (lo hi : Int) (k : Nat) : (zhg lo hi k).length <= 1114112 := by
 have h1 := zkd lo hi k
 have h2 : ((blks.take k).map fun b => b.2 - b.1 + 1).sum <= 1114112 := by
  match k with
  | 0 => decide
  | 1 => decide
  | 2 => decide
  | 3 => decide
  | 4 => decide
  | k + 5 => rw [List.take_of_length_le (by show 5 <= k + 5; omega)]; decide
 omega
def spc (s : zbe) : List Value := s.flatMap fun p => [.int .i64 p.1, .int .i64 p.2]
theorem zbP (s t : zbe) : spc (s ++ t) = spc s ++ spc t := by unfold spc; rw [List.flatMap_append]
theorem zkf {r : Int} (h : cp r) (k : Nat) (hk : k < szI r) : (enL r)[k]? = some (chr (Utf8.encode r) k) /\ k < (Utf8.encode r).size := by
 have hl := zfI h
 have h1 : k < (enL r).length := by omega
 rw [zgA h]
 refine ⟨?_, by rw [zam]; exact h1⟩
 rw [zi7 (enL_by r), List.getElem?_eq_getElem h1]; rfl
theorem zie {r : Int} (h : cp r) : (Utf8.encode r).size = szI r := by rw [zgA h, zam, zfI h]
theorem zpn {lo hi : Int} (h : Blk lo hi) (k : Nat) (hk : k < szI lo) : (shp (lo, hi))[k]? = some (chr (Utf8.encode lo) k, chr (Utf8.encode hi) k) := by
 obtain ⟨h1, h2, h3, _⟩ := h.cpl
 unfold shp
 rw [List.getElem?_zip_eq_some]
 exact ⟨(zkf h1 k hk).1, (zkf h2 k (by omega)).1⟩
theorem zmq {lo hi : Int} (h : Blk lo hi) (k : Nat) (hk : k < szI lo) : (shp (lo, hi)).take (k + 1) = (shp (lo, hi)).take k ++ [(chr (Utf8.encode lo) k, chr (Utf8.encode hi) k)] := by
 rw [List.take_add_one, zpn h k hk]; rfl
theorem zbo {w : World} {a b e size : Nat} {v : Value} {n : Nat} {xs : List Value} (h : w.ownsRow b e size v n xs) (hab : a <= b) : w.ownsRow a e size v n xs := by
 obtain ⟨h1, h2⟩ := h
 refine ⟨h1, ?_⟩
 rcases h2 with h2 | ⟨g, cap, cur, h3, h4, h5⟩
 ·exact .inl h2
 ·exact .inr ⟨g, cap, cur, h3, Nat.le_trans hab h4, h5⟩
theorem Below.grow {w w' : World} (hb : Below w.heap.size w w') (row : Option Nat) : w.grownBy w' row := ⟨hb.os, hb.tape, hb.output, hb.size, fun k hk _ => hb.block k hk⟩
theorem za2 {w w' : World} {base e size : Nat} {v : Value} {n : Nat} {xs : List Value} (h : w.ownsRow base e size v n xs) (hb : Below w.heap.size w w') : w'.ownsRow base e size v n xs := by
 refine h.kept (row := none) (Below.grow hb none) ?_
 cases h2 : v.ownBlock
 ·exact .inl rfl
 ·exact .inr (by simp)
structure RR (W : World) (B : Nat) (v : Value) (ss : List zbe) (xs : List Value) : Prop where
 o : W.ownsRow B 149 1 v xs.length xs
 len : xs.length = ss.length
 each : ∀ (i : Nat) x s, xs[i]? = some x -> ss[i]? = some s -> W.ownsRow B 152 2 x s.length (spc s) /\ x.ownBlock ≠ none /\ x.ownBlock ≠ v.ownBlock
 apart : ∀ (i j : Nat) x y, xs[i]? = some x -> xs[j]? = some y -> i ≠ j -> x.ownBlock ≠ y.ownBlock
theorem RR.nil (W : World) (B : Nat) : RR W B (.slice none 0 0) [] [] :=
 ⟨World.ownsRow_nil _ _ _ _, rfl, fun _ _ _ h => (by cases h), fun _ _ _ _ h => (by cases h)⟩
theorem RR.lt {W : World} {B : Nat} {v : Value} {ss : List zbe} {xs : List Value} (h : RR W B v ss xs) {i : Nat} {x : Value} (hx : xs[i]? = some x) : ∃ g, x.ownBlock = some g /\ B <= g /\ g < W.heap.size := by
 have hi : i < ss.length := by
  rw [<- h.len]
  by_cases q : i < xs.length
  ·exact q
  ·rw [List.getElem?_eq_none (by omega)] at hx; cases hx
 obtain ⟨h1, h2, _⟩ := h.each i x _ hx (List.getElem?_eq_getElem hi)
 cases hb : x.ownBlock with
 | none => exact absurd hb h2
 | some g => exact ⟨g, rfl, (h1.lt g hb).1, (h1.lt g hb).2⟩
theorem RR.below {W W' : World} {B : Nat} {v : Value} {ss : List zbe} {xs : List Value} (h : RR W B v ss xs) (hb : Below W.heap.size W W') : RR W' B v ss xs :=
 ⟨za2 h.o hb, h.len, fun i x s hx hs => ⟨za2 (h.each i x s hx hs).1 hb, (h.each i x s hx hs).2⟩, h.apart⟩
theorem RR.alloc {W : World} {B : Nat} {v : Value} {ss : List zbe} {xs : List Value} (h : RR W B v ss xs) (o : Obj) : RR (W.alloc o) B v ss xs :=
 h.below ((Below.refl _ _).alloc (Nat.le_refl _) _)
theorem RR.push {W W1 : World} {B : Nat} {v y : Value} {ss : List zbe} {s : zbe} {xs : List Value} {g0 g cap : Nat} {ob : Obj} (h : RR W B v ss xs) (hy : W.ownsRow B 152 2 y s.length (spc s)) (hyb : y.ownBlock = some g0)
  (hyv : v.ownBlock ≠ some g0) (hyx : ∀ (i : Nat) x, xs[i]? = some x -> x.ownBlock ≠ some g0)
  (hown : W1.ownsRow B 149 1 (.slice (some ⟨g, 0, none⟩) (xs.length + 1) cap) (xs.length + 1) (xs ++ [y])) (hgrow : (W.alloc ob).grownBy W1 v.ownBlock) (hat : v.ownBlock = some g ∨ g = W.heap.size + 1) :
  RR W1 B (.slice (some ⟨g, 0, none⟩) (xs.length + 1) cap) (ss ++ [s]) (xs ++ [y]) := by
 have hal := h.alloc ob
 have hya := hy.alloc ob
 have hg0 := (hy.lt g0 hyb).2
 have hne : ∀ x : Value, (∃ k, x.ownBlock = some k /\ k < W.heap.size) -> x.ownBlock ≠ v.ownBlock -> x.ownBlock ≠ (Value.slice (some ⟨g, 0, none⟩) (xs.length + 1) cap).ownBlock := by
  rintro x ⟨k, hk, hlt⟩ hv e
  rw [hk] at e
  have e2 : k = g := Option.some.inj e
  rcases hat with q | q
  ·exact hv (by rw [hk, q, e2])
  ·omega
 refine ⟨?_, by rw [List.length_append, List.length_append, h.len]; rfl, ?_, ?_⟩
 ·rw [List.length_append]; exact hown
 ·intro i x t hx ht
  by_cases hi : i < xs.length
  ·rw [List.getElem?_append_left hi] at hx
   rw [List.getElem?_append_left (by rw [<- h.len]; exact hi)] at ht
   obtain ⟨e1, e2, e3⟩ := hal.each i x t hx ht
   obtain ⟨k, hk, _, hlt⟩ := h.lt hx
   exact ⟨e1.kept hgrow (.inr e3), e2, hne x ⟨k, hk, hlt⟩ e3⟩
  ·rw [List.getElem?_append_right (by omega)] at hx
   rw [List.getElem?_append_right (by rw [<- h.len]; omega), <- h.len] at ht
   have hi0 : i - xs.length = 0 := by
    by_cases q : i - xs.length = 0
    ·exact q
    ·rw [List.getElem?_eq_none (by simp; omega)] at hx; cases hx
   rw [hi0] at hx ht
   cases hx
   cases ht
   have hv : y.ownBlock ≠ v.ownBlock := by rw [hyb]; exact Ne.symm hyv
   exact ⟨hya.kept hgrow (.inr hv), by rw [hyb]; simp, hne y ⟨g0, hyb, hg0⟩ hv⟩
 ·intro i j x z hx hz hij
  by_cases hi : i < xs.length
  ·rw [List.getElem?_append_left hi] at hx
   by_cases hj : j < xs.length
   ·rw [List.getElem?_append_left hj] at hz
    exact h.apart i j x z hx hz hij
   ·rw [List.getElem?_append_right (by omega)] at hz
    have hj0 : j - xs.length = 0 := by
     by_cases q : j - xs.length = 0
     ·exact q
     ·rw [List.getElem?_eq_none (by simp; omega)] at hz; cases hz
    rw [hj0] at hz
    cases hz
    rw [hyb]
    exact hyx i x hx
  ·rw [List.getElem?_append_right (by omega)] at hx
   have hi0 : i - xs.length = 0 := by
    by_cases q : i - xs.length = 0
    ·exact q
    ·rw [List.getElem?_eq_none (by simp; omega)] at hx; cases hx
   rw [hi0] at hx
   cases hx
   by_cases hj : j < xs.length
   ·rw [List.getElem?_append_left hj] at hz
    rw [hyb]
    exact Ne.symm (hyx j z hz)
   ·rw [List.getElem?_append_right (by omega)] at hz
    have hj0 : j - xs.length = 0 := by
     by_cases q : j - xs.length = 0
     ·exact q
     ·rw [List.getElem?_eq_none (by simp; omega)] at hz; cases hz
    omega
theorem zb8 (n : Int) (w : World) : Calls Tryz.prog 213 #[.int .i64 n] w fun e w' => e = .returned (.bool (bdB n)) /\ w' = w := by
 by_cases h0 : 0 <= n
 ·by_cases h1 : n <= 1114111
  ·have HE : Hid (bdB n = true) := ze0 ⟨h0, h1⟩
   go_enter Tryz.func213, Tryz.ntmps213
   go_wp2
   go_ret
   exact ⟨by rw [HE.out]; rfl, rfl⟩
  ·have HE : Hid (bdB n = false) := zi9 (fun h => h1 h.2)
   go_enter Tryz.func213, Tryz.ntmps213
   go_wp2
   go_ret
   exact ⟨by rw [HE.out]; rfl, rfl⟩
 ·have HE : Hid (bdB n = false) := zi9 (fun h => h0 h.1)
  go_enter Tryz.func213, Tryz.ntmps213
  go_wp2
  go_ret
  exact ⟨by rw [HE.out]; rfl, rfl⟩
structure RBox (w : World) (b : Nat) (p q : Int) : Prop where
 lt : b < w.heap.size
 c0 : w.cell? ⟨b, 0, none⟩ = some (.int .i32 p)
 c1 : w.cell? ⟨b, 1, none⟩ = some (.int .i32 q)
theorem RBox.new (w : World) (p q : Int) : RBox (w.alloc (.cells #[.int .i32 p, .int .i32 q] 218)) w.heap.size p q := by
 constructor <;> simp [go_sem]
theorem RBox.below {B : Nat} {w w' : World} {b : Nat} {p q : Int} (h : RBox w b p q) (hb : Below B w w') (hB : b < B) : RBox w' b p q :=
 ⟨Nat.lt_of_lt_of_le h.lt hb.size, (hb.cell (p := ⟨b, 0, none⟩) hB).trans h.c0, (hb.cell (p := ⟨b, 1, none⟩) hB).trans h.c1⟩
theorem RBox.grown {w w' : World} {b : Nat} {p q : Int} {row : Option Nat} (h : RBox w b p q) (hg : w.grownBy w' row) (hne : row = some b -> False) : RBox w' b p q := by
 have e := hg.block b h.lt (fun e => hne e.symm)
 exact ⟨Nat.lt_of_lt_of_le h.lt hg.size, (World.cell?_of_block (a := ⟨b, 0, none⟩) e).trans h.c0, (World.cell?_of_block (a := ⟨b, 1, none⟩) e).trans h.c1⟩
def smV : Option Int -> Value
 | some c => .tuple #[.int .i32 c, .bool true]
 | none => .tuple #[.int .i32 0, .bool false]
structure AtM (w wr : World) (lo hi : Int) : Prop where
 x : RBox wr w.heap.size lo hi
 b : Below w.heap.size w wr
theorem zif (lo hi : Int) (h : Blk lo hi) (w : World) :
  Calls Tryz.prog 216 #[.agg #[.int .i32 lo, .int .i32 hi]] w fun e w' => e = .returned (smV (zdS lo hi)) /\ Below w.heap.size w w' := by
 have hcp := h.cpl.1
 have h0 := h.cpl.2.2.2.1
 have h1 := h.cpl.2.2.2.2.1
 have h2 := h.cpl.2.2.2.2.2
 have HL : Hid (∀ w, Calls Tryz.prog 219 #[.int .i32 lo] w fun e w' => e = .returned (.int .i64 (szI lo : Int)) /\ w' = w) := fun w => by
  have hh := Tryz.utf8_RuneLen lo w
  rwa [zi8 hcp] at hh
 have hsz := zfk lo
 have HA : Hid (AtM w (w.alloc (.cells #[.int .i32 lo, .int .i32 hi] 218)) lo hi) := ⟨RBox.new w lo hi, (Below.refl _ _).alloc (Nat.le_refl _) _⟩
 have HS : Hid (∀ c, zdS lo hi = some c -> lo < c /\ c <= hi) := fun c hc => zbK h0 h1 hc
 generalize hR : zdS lo hi = R at *
 have HR : Hid (zc9 lo hi (szI lo - 1) 1 = R) := hR
 generalize szI lo = K at *
 clear hR hcp h
 obtain ⟨_, c0, c1⟩ := HA.out.x
 go_enter Tryz.func216, Tryz.ntmps216
 go_wp2_with fail
 refine (HL.out _).mono ?_
 rintro e w1 ⟨rfl, rfl⟩
 clear c0 c1 HL
 go_wp2_with fail
 go_loopw [4, 11] (fun t u wr => ∃ k : Nat, ∃ m : Int, t = .int .i32 m /\ u = .int .i64 k /\ k + 1 <= K /\ Hid ((k = 0 /\ m = 1) ∨ (k = 1 /\ m = 64) ∨ (k = 2 /\ m = 4096) ∨ k = 3) /\ Hid (zc9 lo hi (K - 1 - k) m = R) /\ Hid (AtM w wr lo hi)) (fun _ u _ => 5 - (intOf u).toNat)
 case atStart => exact ⟨0, 1, rfl, rfl, by omega, .inl ⟨rfl, rfl⟩, HR, HA⟩
 case round =>
  obtain ⟨k, m, rfl, rfl, hk, HM, HK, HW⟩ := hrel
  clear HA HR
  by_cases hlt : k + 1 < K
  ·have hlt2 : (k : Int) < (K : Int) - 1 := by omega
   obtain ⟨m', hm', hmm⟩ : ∃ m' : Int, m' = m * 64 /\ (m' = 64 ∨ m' = 4096 ∨ m' = 262144) := ⟨_, rfl, by have e := HM.out; omega⟩
   have HM2 : Hid ((k + 1 = 0 /\ m' = 1) ∨ (k + 1 = 1 /\ m' = 64) ∨ (k + 1 = 2 /\ m' = 4096) ∨ k + 1 = 3) := (by show _ ∨ _; have e := HM.out; omega)
   have hwm : IntKind.i32.wrap (m * 64) = m' := by rw [<- hm', IntKind.wrap_i32]; rcases hmm with rfl | rfl | rfl <;> rfl
   have HKn := (show Hid (zcE lo hi m' = none -> zc9 lo hi (K - 1 - (k + 1)) m' = R) from fun e => by
    have e2 := HK.out
    rw [hm'] at e
    rw [show K - 1 - k = (K - 1 - (k + 1)) + 1 from by omega, zja e, <- hm'] at e2
    exact e2)
   have HKs := (show Hid (∀ c, zcE lo hi m' = some c -> R = some c /\ lo < c /\ c <= hi) from fun c e => by
    have e2 := HK.out
    rw [hm'] at e
    rw [show K - 1 - k = (K - 1 - (k + 1)) + 1 from by omega, zjb e] at e2
    exact ⟨e2.symm, HS.out c e2.symm⟩)
   have hpos : 0 < m' /\ m' <= 262144 := by omega
   have hm0 : m' ≠ 0 := by omega
   have q1 : lo.tdiv m' = lo / m' := Int.tdiv_eq_ediv_of_nonneg h0
   have q2 : hi.tdiv m' = hi / m' := Int.tdiv_eq_ediv_of_nonneg (by omega)
   have q3 : lo.tmod m' = lo % m' := Int.tmod_eq_emod_of_nonneg h0
   have q4 : (hi + 1).tmod m' = (hi + 1) % m' := Int.tmod_eq_emod_of_nonneg (by omega)
   have b1 : 0 <= lo / m' /\ lo / m' <= lo := by rcases hmm with rfl | rfl | rfl <;> omega
   have b2 : 0 <= hi / m' /\ hi / m' <= hi := by rcases hmm with rfl | rfl | rfl <;> omega
   have b3 : 0 <= lo % m' /\ lo % m' < m' := by rcases hmm with rfl | rfl | rfl <;> omega
   have b4 : 0 <= (hi + 1) % m' /\ (hi + 1) % m' < m' := by rcases hmm with rfl | rfl | rfl <;> omega
   have HSe : Hid (∀ a b x y, a = lo / m' -> b = hi / m' -> x = lo % m' -> y = (hi + 1) % m' -> zcE lo hi m' = if a = b then none else if x ≠ 0 then some ((a + 1) * m') else if y ≠ 0 then some (b * m') else none) := fun a b x y e1 e2 e3 e4 => by rw [e1, e2, e3, e4]; rfl
   have HSq := hO (HSe.out (lo / m') (hi / m') (lo % m') ((hi + 1) % m') rfl rfl rfl rfl)
   clear hm' HK HM hmm HSe HS
   have c0 := HW.out.x.c0
   have c1 := HW.out.x.c1
   go_wp2_with fail
   go_quiet (fail)
   have HW1 : Hid (AtM w (wr.drewN nq) lo hi) := ⟨HW.out.x.below (below_drewN (Below.refl _ _) _) HW.out.x.lt, HW.out.b.trans (below_drewN (Below.refl _ _) _)⟩
   generalize wr.drewN nq = w1 at *
   clear c0 c1 HW q1 q2
   have c0 := HW1.out.x.c0
   have c1 := HW1.out.x.c1
   generalize lo / m' = a at *
   generalize hi / m' = b at *
   generalize lo % m' = x at *
   generalize (hi + 1) % m' = y at *
   by_cases hab : a = b
   ·have HN := hO (HKn.out (by rw [HSq.out, if_pos hab]))
    clear HKn HKs HSq
    subst hab
    go_wp2
    go_roundw
    case rel => exact ⟨k + 1, m', by go_num, by go_num, by omega, HM2, HN, HW1⟩
    case measure => simp [intOf]; omega
   ·have eab : (a == b) = false := bF hab
    by_cases hx : x = 0
    ·have ex : (x != 0) = false := by rw [hx]; rfl
     by_cases hy : y = 0
     ·have HN := hO (HKn.out (by rw [HSq.out, if_neg hab, if_neg (by omega), if_neg (by omega)]))
      have ey : (y != 0) = false := by rw [hy]; rfl
      clear HKn HKs HSq hab hx hy
      go_wp2
      go_roundw
      case rel => exact ⟨k + 1, m', by go_num, by go_num, by omega, HM2, HN, HW1⟩
      case measure => simp [intOf]; omega
     ·obtain ⟨hR, hb1, hb2⟩ := HKs.out (b * m') (by rw [HSq.out, if_neg hab, if_neg (by omega), if_pos hy])
      have ey : (y != 0) = true := bne_iff_ne.2 hy
      have HE := hO hR
      have v1 : IntKind.i32.wrap (b * m') = b * m' := by rw [IntKind.wrap_i32]; omega
      clear HKn HKs HSq hab hx hy hR hb1 hb2
      go_wp2
      go_ret2
      exact ⟨by rw [HE.out]; rfl, HW1.out.b⟩
    ·obtain ⟨hR, hb1, hb2⟩ := HKs.out ((a + 1) * m') (by rw [HSq.out, if_neg hab, if_pos hx])
     have ex : (x != 0) = true := bne_iff_ne.2 hx
     have HE := hO hR
     have v1 : IntKind.i32.wrap ((a + 1) * m') = (a + 1) * m' := by rw [IntKind.wrap_i32]; omega
     clear HKn HKs HSq hab hx hR hb1 hb2
     go_wp2
     go_ret2
     exact ⟨by rw [HE.out]; rfl, HW1.out.b⟩
  ·have HE : Hid (R = none) := (by have e := HK.out; rw [show K - 1 - k = 0 from by omega] at e; exact e.symm)
   obtain rfl : K = k + 1 := by omega
   clear HK HM HS
   go_wp2
   go_ret2
   exact ⟨by rw [HE.out]; rfl, HW.out.b⟩
theorem Tryz.info56 : (Tryz.prog.info? 152).map (fun i => (i.zero, i.size, i.bytes)) = some (some (.agg #[.int .i64 0, .int .i64 0]), 2, 16) := by kernel_rfl
structure AtS (w wr : World) (v : Value) (s : zbe) : Prop where
 o : wr.ownsRow (w.heap.size + 1) 152 2 v s.length (spc s)
 lt : w.heap.size < wr.heap.size
 b : Below w.heap.size w wr
theorem zhv (lo hi : Int) (h : Blk lo hi) (w : World) :
  Calls Tryz.prog 217 #[.agg #[.int .i32 lo, .int .i32 hi]] w fun e w' => ∃ v, e = .returned v /\ w'.ownsRow (w.heap.size + 1) 152 2 v (shp (lo, hi)).length (spc (shp (lo, hi))) /\ Below w.heap.size w w' := by
 obtain ⟨i0, hinf, hz0, hz1, hz2⟩ := info_parts Tryz.info56
 have hsz := zfk lo
 have HG : Hid (∀ k, k < szI lo -> (shp (lo, hi)).take (k + 1) = (shp (lo, hi)).take k ++ [(chr (Utf8.encode lo) k, chr (Utf8.encode hi) k)]) := fun k hk => zmq h k hk
 have HL : Hid ((shp (lo, hi)).length = szI lo) := zhu h
 have hX := zie h.cpl.1
 have hY := zie h.cpl.2.1
 rw [<- h.cpl.2.2.1] at hY
 have c0 := (RBox.new w lo hi).c0
 have c1 := (RBox.new w lo hi).c1
 have HA : Hid (AtS w (w.alloc (.cells #[.int .i32 lo, .int .i32 hi] 218)) (.slice none 0 0) []) := ⟨World.ownsRow_nil _ _ _ _, by simp, (Below.refl _ _).alloc (Nat.le_refl _) _⟩
 generalize shp (lo, hi) = S at *
 generalize szI lo = K at *
 generalize hXe : Utf8.encode lo = X at *
 generalize hYe : Utf8.encode hi = Y at *
 clear h
 have hXi : (X.size : Int) = (K : Int) := by omega
 go_enter Tryz.func217, Tryz.ntmps217
 go_wp2_with fail
 go_quiet (fail)
 have HA1 : Hid (AtS w ((w.alloc (.cells #[.int .i32 lo, .int .i32 hi] 218)).drewN nq) (.slice none 0 0) []) := ⟨World.ownsRow_nil _ _ _ _, HA.out.lt, HA.out.b.trans (below_drewN (Below.refl _ _) _)⟩
 clear HA c0 c1
 generalize (w.alloc (.cells #[.int .i32 lo, .int .i32 hi] 218)).drewN nq = w0 at *
 go_wp2_with fail
 go_loopw [5, 15] (fun v t wr => ∃ k : Nat, k <= K /\ t = .int .i64 k /\ Hid (AtS w wr v (S.take k))) (fun _ t _ => 5 - (intOf t).toNat)
 case atStart => exact ⟨0, by omega, by go_num, HA1⟩
 case round =>
  obtain ⟨k, hk, rfl, HW⟩ := hrel
  clear HA1
  by_cases hlt : k < K
  ·have z0 : (0 : Int) <= (k : Int) := by omega
   have z1 : (k : Int) < (X.size : Int) := by omega
   have z2 : (k : Int) < (Y.size : Int) := by omega
   have z3 : (k : Int) < (K : Int) := by omega
   have hxk : k < X.size := by omega
   have hyk : k < Y.size := by omega
   have HT := hO (HG.out k hlt)
   have e1 := zai hxk
   have e2 := zai hyk
   rw [e1, e2] at HT
   clear e1 e2
   have hO := HW.out.o
   have hbl := HW.out.lt
   have HTl : Hid ((S.take k).length <= 4) := (by show _ <= _; have := List.length_take_le k S; omega)
   have wa : IntKind.i64.wrap (X[k].toNat : Int) = (X[k].toNat : Int) := by have := X[k].toNat_lt; rw [IntKind.wrap_i64]; omega
   have wb : IntKind.i64.wrap (Y[k].toNat : Int) = (Y[k].toNat : Int) := by have := Y[k].toNat_lt; rw [IntKind.wrap_i64]; omega
   generalize hxx : (X[k].toNat : Int) = a at *
   generalize hyy : (Y[k].toNat : Int) = b at *
   generalize S.take k = T at *
   go_wp2_with fail
   go_region_held3 (fun _ => True) (trivial) ((refine step_append_lies _ (by rfl) _ _ _ (by rfl) (w.heap.size + 1) 152 i0 _ 2 16 Tryz.underlying149 hinf hz0 hz1 hz2 rfl (by omega) _ _ (spc T) (by rfl) ((hO.alloc _).drew) ⟨wr.heap.size, 0, none⟩ 1 1 [.int .i64 a, .int .i64 b] (by rfl) (by rfl) (World.news_of_block (cs := #[.int .i64 a, .int .i64 b]) (t := 152) (fr := (0, 0)) (heap_alloc_new wr _)) (by simp [Value.oneCell']) (by omega) (by have := HTl.out; unfold maxLen; omega) (by have := HTl.out; omega) (by simp; omega) (wr.heap.size + 1) (by simp) ?_; intro g cap w1 hown1 hgrow hat hltg))
   all_goals
    have hle := fun j e => (hO.lt j e).1
    have HW2 := (show Hid (AtS w w1 (.slice (some ⟨g, 0, none⟩) (T.length + 1) cap) (S.take (k + 1))) from (by
     rw [HT.out]
     refine ⟨?_, Nat.lt_of_lt_of_le (by simp; omega) hgrow.size, ?_⟩
     ·rw [List.length_append, zbP]; exact hown1
     ·exact ((HW.out.b.alloc (by omega) (.cells #[.int .i64 a, .int .i64 b] 152)).drew).grown hgrow (by simp; omega) (fun j e => by have := hle j e; omega)))
    clear hown1 hgrow hat hltg hO HT HTl HW hle hxx hyy wa wb
    go_wp2
    go_roundw
    case rel => exact ⟨k + 1, by omega, by go_num, HW2⟩
    case measure => simp [intOf]; omega
  ·obtain rfl : K = k := by omega
   have HE : Hid (S.take K = S) := List.take_of_length_le (by have := HL.out; omega)
   rw [HE.out] at HW
   have o := HW.out.o
   have b := HW.out.b
   clear HG HL HE
   go_wp2
   go_ret
   exact ⟨_, rfl, o, b⟩
theorem Tryz.info54 : (Tryz.prog.info? 149).map (fun i => (i.zero, i.size, i.bytes)) = some (some (.slice none 0 0), 1, 24) := by kernel_rfl
def AppS (lo hi : Int) : Prop := ∀ (w : World) (B : Nat) (v : Value) (ss : List zbe) (xs : List Value), RR w B v ss xs -> B <= w.heap.size -> ss.length + (hi - lo + 1).toNat <= 1114112 →
 Calls Tryz.prog 214 #[v, .agg #[.int .i32 lo, .int .i32 hi]] w fun e w' => ∃ v' xs', e = .returned v' /\ RR w' B v' (ss ++ shs lo hi) xs' /\ w.grownBy w' v.ownBlock /\ ∀ k, v'.ownBlock = some k -> v.ownBlock = some k ∨ w.heap.size <= k
theorem zci (lo hi : Int) (h : Blk lo hi) (hs : zdS lo hi = none) : AppS lo hi := by
 intro w B v ss xs hR hB hn
 obtain ⟨i0, hinf, hz0, hz1, hz2⟩ := info_parts Tryz.info54
 have HS : Hid (∀ w, Calls Tryz.prog 216 #[.agg #[.int .i32 lo, .int .i32 hi]] w fun e w' => e = .returned (.tuple #[.int .i32 0, .bool false]) /\ Below w.heap.size w w') := fun w => by
  have e := zif lo hi h w
  rw [hs] at e
  exact e
 have HO : Hid (∀ w, Calls Tryz.prog 217 #[.agg #[.int .i32 lo, .int .i32 hi]] w fun e w' => ∃ v, e = .returned v /\ w'.ownsRow (w.heap.size + 1) 152 2 v (shp (lo, hi)).length (spc (shp (lo, hi))) /\ Below w.heap.size w w') := fun w => zhv lo hi h w
 have HE := hO (zmo hs)
 have hl1 : 1 <= (shp (lo, hi)).length := by rw [zhu h]; exact (zfk lo).1
 have hxl := hR.len
 have hn2 : xs.length + 1 <= 1114112 := by have := h.cpl.2.2.2.2.1; omega
 have HR := hO hR
 clear hR hs h hxl
 generalize shp (lo, hi) = s at *
 have HX := hO ((RBox.new w lo hi))
 have HB1 := hO (((Below.refl w.heap.size w).alloc (Nat.le_refl _) (.cells #[.int .i32 lo, .int .i32 hi] 218)))
 obtain ⟨_, c0, c1⟩ := HX.out
 go_enter Tryz.func214, Tryz.ntmps214
 go_wp2_with fail
 refine (HS.out _).mono ?_
 rintro e w1 ⟨rfl, hb1⟩
 have HX1 : Hid (RBox w1 w.heap.size lo hi) := HX.out.below hb1 (by simp)
 have HB2 : Hid (Below w.heap.size w w1) := HB1.out.trans (hb1.mono (by simp))
 clear c0 c1 HX HB1 hb1
 obtain ⟨hlt1, c0, c1⟩ := HX1.out
 go_wp2_with fail
 refine (HO.out _).mono ?_
 rintro e w2 ⟨y, rfl, hy, hb2⟩
 have HB3 : Hid (Below w.heap.size w w2) := HB2.out.trans (hb2.mono (by omega))
 have hz := hb2.size
 clear c0 c1 HX1 HB2 hb2
 obtain ⟨g0, cy, rfl, hyb, hyl⟩ := hy.form hl1
 have HR2 : Hid (RR w2 B v ss xs) := HR.out.below HB3.out
 have hO2 := HR2.out.o
 go_wp2_with (at_builtin; refine wpList_append_lies _ rfl _ _ 213 rfl B 149 i0 (.slice none 0 0) 1 24 Tryz.underlying213 hinf hz0 hz1 hz2 rfl (by decide) v xs.length xs rfl (hO2.alloc _) ⟨w2.heap.size, 0, none⟩ 1 1 [.slice (some ⟨g0, 0, none⟩) s.length cy] rfl rfl (cell_one_new _ _ _) ?c2 (by decide) ?c3 ?c4 ?c5 (w2.heap.size + 1) (by simp) ?_)
 case c2 => intro u hu; simp at hu; subst hu; rfl
 case c3 => unfold maxLen; omega
 case c4 => omega
 case c5 => simp; omega
 intro g cap w3 hown hgrow hat hlt
 have hyo : w2.ownsRow B 152 2 (.slice (some ⟨g0, 0, none⟩) s.length cy) s.length (spc s) := zbo hy (by omega)
 have HR3 := (show Hid (RR w3 B (.slice (some ⟨g, 0, none⟩) (xs.length + 1) cap) (ss ++ [s]) (xs ++ [.slice (some ⟨g0, 0, none⟩) s.length cy])) from
  HR2.out.push (g0 := g0) hyo rfl (fun e => by have := (HR.out.o.lt _ e).2; omega) (fun i x hx e => by
   obtain ⟨k, hk, _, hlt2⟩ := HR.out.lt hx
   rw [hk] at e
   cases e
   omega) hown hgrow hat)
 have HG : Hid (w.grownBy w3 v.ownBlock) := (Below.grow HB3.out _).trans ((World.grownBy_alloc w2 _ _).trans hgrow)
 have HK := (show Hid (∀ k, (Value.slice (some ⟨g, 0, none⟩) (xs.length + 1) cap).ownBlock = some k -> v.ownBlock = some k ∨ w.heap.size <= k) from fun k e => by
  have e2 : g = k := Option.some.inj e
  rcases hat with q | q
  ·exact .inl (by rw [q, e2])
  ·right; omega)
 clear hown hgrow hat hlt hO2 HR2 hyo hy HR HB3
 go_wp2
 go_ret
 exact ⟨_, _, rfl, by rw [HE.out]; exact HR3.out, HG.out, HK.out⟩
theorem zdT (lo hi c : Int) (h : Blk lo hi) (hs : zdS lo hi = some c) (hA : AppS lo (c - 1)) (hA2 : AppS c hi) : AppS lo hi := by
 intro w B v ss xs hR hB hn
 have HS : Hid (∀ w, Calls Tryz.prog 216 #[.agg #[.int .i32 lo, .int .i32 hi]] w fun e w' => e = .returned (.tuple #[.int .i32 c, .bool true]) /\ Below w.heap.size w w') := fun w => by
  have e := zif lo hi h w
  rw [hs] at e
  exact e
 have h0 := h.cpl.2.2.2.1
 have h1 := h.cpl.2.2.2.2.1
 have h2 := h.cpl.2.2.2.2.2
 have hcb := zbK h0 h1 hs
 have HE := hO (zmp h0 h1 hs)
 have hll := zj9 (lo := lo) (hi := c - 1) h0 (by omega)
 have q1 : IntKind.i32.wrap (c - 1) = c - 1 := by rw [IntKind.wrap_i32]; omega
 have HA := hO hA
 have HA2 := hO hA2
 have HR := hO hR
 have HN := hO hn
 have HLL := hO hll
 clear hR hs h hA hA2 hn hll
 have HX := hO ((RBox.new w lo hi))
 have HB1 := hO (((Below.refl w.heap.size w).alloc (Nat.le_refl _) (.cells #[.int .i32 lo, .int .i32 hi] 218)))
 obtain ⟨_, c0, c1⟩ := HX.out
 go_enter Tryz.func214, Tryz.ntmps214
 go_wp2_with fail
 refine (HS.out _).mono ?_
 rintro e w1 ⟨rfl, hb1⟩
 have HX1 : Hid (RBox w1 w.heap.size lo hi) := HX.out.below hb1 (by simp)
 have HB2 : Hid (Below w.heap.size w w1) := HB1.out.trans (hb1.mono (by simp))
 clear c0 c1 HX HB1 hb1
 obtain ⟨hlt1, c0, c1⟩ := HX1.out
 have HR1 : Hid (RR w1 B v ss xs) := HR.out.below HB2.out
 go_wp2_with fail
 refine (HA.out w1 B v ss xs HR1.out (by omega) (by have := HN.out; omega)).mono ?_
 rintro e w2 ⟨v2, xs2, rfl, hR2, hg2, hk2⟩
 have HX2 : Hid (RBox w2 w.heap.size lo hi) := HX1.out.grown hg2 (fun e => by have := (HR.out.o.lt _ e).2; omega)
 have HR2 := hO hR2
 have HG2 := hO hg2
 have HK2 := hO hk2
 clear c0 c1 HX1 hR2 hg2 hk2
 obtain ⟨hlt2, c0, c1⟩ := HX2.out
 go_wp2_with fail
 refine (HA2.out w2 B v2 _ xs2 HR2.out (by have := HG2.out.size; omega) (by have := HN.out; have := HLL.out; rw [List.length_append]; omega)).mono ?_
 rintro e w3 ⟨v3, xs3, rfl, hR3, hg3, hk3⟩
 have HR3 := hO hR3
 have HG3 := (show Hid (w.grownBy w3 v.ownBlock) from ((Below.grow HB2.out _).trans HG2.out).andThen hg3 (fun j e => by
  rcases HK2.out j e with q | q
  ·exact .inr q
  ·have := HB2.out.size; left; omega))
 have HK3 := (show Hid (∀ k, v3.ownBlock = some k -> v.ownBlock = some k ∨ w.heap.size <= k) from fun k e => by
  rcases hk3 k e with q | q
  ·rcases HK2.out k q with q2 | q2
   ·exact .inl q2
   ·have := HB2.out.size; right; omega
  ·have := HB2.out.size; have := HG2.out.size; right; omega)
 clear hR3 hg3 hk3 HX2 c0 c1
 go_wp2
 go_ret
 exact ⟨_, xs3, rfl, by rw [HE.out, <- List.append_assoc]; exact HR3.out, HG3.out, HK3.out⟩
theorem zbL : ∀ (f : Nat) (lo hi : Int), Blk lo hi -> (hi - lo).toNat <= f -> AppS lo hi
 | 0, lo, hi, h, hf => by
  refine zci lo hi h ?_
  cases hs : zdS lo hi with
  | none => rfl
  | some c => have := zbK h.cpl.2.2.2.1 h.cpl.2.2.2.2.1 hs; omega
 | f + 1, lo, hi, h, hf => by
  cases hs : zdS lo hi with
  | none => exact zci lo hi h hs
  | some c =>
   have := zbK h.cpl.2.2.2.1 h.cpl.2.2.2.2.1 hs
   exact zdT lo hi c h hs (zbL f lo (c - 1) (h.cut hs).1 (by omega)) (zbL f c hi (h.cut hs).2 (by omega))
structure VB (W : World) : Prop where
 lt : 6 < W.heap.size
 c0 : W.cell? ⟨6, 0, none⟩ = some (.int .i32 0)
 c1 : W.cell? ⟨6, 1, none⟩ = some (.int .i32 127)
 c2 : W.cell? ⟨6, 2, none⟩ = some (.int .i32 128)
 c3 : W.cell? ⟨6, 3, none⟩ = some (.int .i32 2047)
 c4 : W.cell? ⟨6, 4, none⟩ = some (.int .i32 2048)
 c5 : W.cell? ⟨6, 5, none⟩ = some (.int .i32 55295)
 c6 : W.cell? ⟨6, 6, none⟩ = some (.int .i32 57344)
 c7 : W.cell? ⟨6, 7, none⟩ = some (.int .i32 65535)
 c8 : W.cell? ⟨6, 8, none⟩ = some (.int .i32 65536)
 c9 : W.cell? ⟨6, 9, none⟩ = some (.int .i32 1114111)
theorem VB.below {B : Nat} {W W' : World} (h : VB W) (hb : Below B W W') (hB : 6 < B) : VB W' := by
 have key : ∀ k, W'.cell? ⟨6, k, none⟩ = W.cell? ⟨6, k, none⟩ := fun k => hb.cell (p := ⟨6, k, none⟩) hB
 exact ⟨Nat.lt_of_lt_of_le h.lt hb.size, (key 0).trans h.c0, (key 1).trans h.c1, (key 2).trans h.c2, (key 3).trans h.c3, (key 4).trans h.c4, (key 5).trans h.c5, (key 6).trans h.c6, (key 7).trans h.c7, (key 8).trans h.c8, (key 9).trans h.c9⟩
def ShV (w w' : World) (lo hi : Int) (e : Ending) : Prop :=
 if bdB lo = true /\ bdB hi = true then
  (if lo <= hi then ∃ v xs, e = .returned (.tuple #[v, .int .i64 0]) /\ RR w' w.heap.size v (zdi lo hi) xs else e = .returned (.tuple #[.slice none 0 0, .int .i64 1]))
 else e = .returned (.tuple #[.slice none 0 0, .int .i64 30])
def zpo : Value := .agg #[.int .i32 0, .int .i32 127, .int .i32 128, .int .i32 2047, .int .i32 2048, .int .i32 55295, .int .i32 57344, .int .i32 65535, .int .i32 65536, .int .i32 1114111]
theorem zhw (k : Nat) (b : Int × Int) (h : blks[k]? = some b) (W : World) : (Instr.index 219 zpo (.int .i64 (k : Int))).run Tryz.prog W = .ok (.agg #[.int .i32 b.1, .int .i32 b.2]) W := by
 match k, h with
 | 0, h => cases h; simp [zpo, Instr.index, run_underlying Tryz.underlying219, asIntOf, go_sem]
 | 1, h => cases h; simp [zpo, Instr.index, run_underlying Tryz.underlying219, asIntOf, go_sem]
 | 2, h => cases h; simp [zpo, Instr.index, run_underlying Tryz.underlying219, asIntOf, go_sem]
 | 3, h => cases h; simp [zpo, Instr.index, run_underlying Tryz.underlying219, asIntOf, go_sem]
 | 4, h => cases h; simp [zpo, Instr.index, run_underlying Tryz.underlying219, asIntOf, go_sem]
structure AtB (w wr : World) (v : Value) (ss : List zbe) : Prop where
 r : ∃ xs, RR wr w.heap.size v ss xs
 b : Below w.heap.size w wr
theorem zkg (lo hi : Int) (h0 : 0 <= lo) (h1 : lo <= hi) (h2 : hi <= 1114111) (w : World) (hv : VB w) :
  Calls Tryz.prog 211 #[.int .i64 lo, .int .i64 hi] w fun e w' => (∃ v xs, e = .returned (.tuple #[v, .int .i64 0]) /\ RR w' w.heap.size v (zdi lo hi) xs) /\ Below w.heap.size w w' := by
 have HB1 : Hid (∀ w, Calls Tryz.prog 213 #[.int .i64 lo] w fun e w' => e = .returned (.bool true) /\ w' = w) := fun w => by
  have e := zb8 lo w
  rwa [ze0 ⟨h0, by omega⟩] at e
 have HB2 : Hid (∀ w, Calls Tryz.prog 213 #[.int .i64 hi] w fun e w' => e = .returned (.bool true) /\ w' = w) := fun w => by
  have e := zb8 hi w
  rwa [ze0 ⟨by omega, h2⟩] at e
 have HV := hO hv
 obtain ⟨_, c0, c1, c2, c3, c4, c5, c6, c7, c8, c9⟩ := hv
 have hnl : decide (hi < lo) = false := decide_eq_false (by omega)
 go_enter Tryz.func211, Tryz.ntmps211
 go_wp2_with fail
 refine (HB1.out _).mono ?_
 rintro e w' ⟨rfl, rfl⟩
 go_wp2_with fail
 refine (HB2.out _).mono ?_
 rintro e w' ⟨rfl, rfl⟩
 go_wp2_with fail
 clear c0 c1 c2 c3 c4 c5 c6 c7 c8 c9 HB1 HB2
 have hidx := fun k b h => zhw k b h
 unfold zpo at hidx
 have HI := hO hidx
 clear hidx
 go_loopw [6, 22] (fun v t wr => ∃ k : Nat, k <= 5 /\ t = .int .i64 k /\ Hid (AtB w' wr v (zhg lo hi k))) (fun _ t _ => 6 - (intOf t).toNat)
 case atStart => exact ⟨0, by omega, by go_num, ⟨⟨[], RR.nil _ _⟩, Below.refl _ _⟩⟩
 case round =>
  obtain ⟨k, hk, rfl, HW⟩ := hrel
  by_cases hk5 : k < 5
  ·obtain ⟨b, hb⟩ : ∃ b, blks[k]? = some b := ⟨_, List.getElem?_eq_getElem (by show k < 5; exact hk5)⟩
   have hix := HI.out k b hb wr
   obtain ⟨hb0, hb1, hb2, hbB⟩ := zkb hb
   have HT := hO (zka lo hi k b hb)
   have HLen := hO (zke lo hi k b hb)
   have HO : Hid (zgB lo hi b = if max b.1 lo <= min b.2 hi then shs (max b.1 lo) (min b.2 hi) else []) := rfl
   have HBB := hO (hbB lo hi)
   obtain ⟨b1, b2⟩ := b
   dsimp only at *
   have hz5 : (k : Int) < 5 := by omega
   clear hbB hb
   have q1 : IntKind.i32.wrap lo = lo := by rw [IntKind.wrap_i32]; omega
   have q2 : IntKind.i32.wrap hi = hi := by rw [IntKind.wrap_i32]; omega
   by_cases hmm : max b1 lo <= min b2 hi
   ·have HT2 : Hid (zhg lo hi (k + 1) = zhg lo hi k ++ shs (max b1 lo) (min b2 hi)) := (by show _ = _; rw [HT.out, HO.out, if_pos hmm])
    have HA : Hid (AppS (max b1 lo) (min b2 hi)) := zbL _ _ _ (HBB.out hmm) (Nat.le_refl _)
    have HN : Hid ((zhg lo hi k).length + (min b2 hi - max b1 lo + 1).toNat <= 1114112) := (by have e := HLen.out; show _ <= _; omega)
    clear HT HO HBB HLen
    obtain ⟨⟨xs, hR⟩, hBw⟩ := HW.out
    have HR := hO hR
    have HBw := hO hBw
    clear hR hBw HW
    have HR2 : Hid (RR ((wr.alloc (.cells #[.int .i32 b1, .int .i32 b2] 218)).alloc (.cells #[.int .i32 (max b1 lo), .int .i32 (min b2 hi)] 218)) w'.heap.size u6 (zhg lo hi k) xs) := (HR.out.alloc _).alloc _
    have HB2 : Hid (Below w'.heap.size w' ((wr.alloc (.cells #[.int .i32 b1, .int .i32 b2] 218)).alloc (.cells #[.int .i32 (max b1 lo), .int .i32 (min b2 hi)] 218))) := (HBw.out.alloc HBw.out.size _).alloc (by simp; exact Nat.le_succ_of_le HBw.out.size) _
    go_wp2_with fail
    refine (HA.out _ _ _ _ _ HR2.out HB2.out.size HN.out).mono ?_
    rintro e w2 ⟨v2, xs2, rfl, hR3, hg3, _⟩
    have HW2 := (show Hid (AtB w' w2 v2 (zhg lo hi (k + 1))) from (by
     rw [HT2.out]
     exact ⟨⟨xs2, hR3⟩, HB2.out.grown hg3 HB2.out.size (fun j e => (HR.out.o.lt j e).1)⟩))
    clear hR3 hg3 HR HBw HR2 HB2 hix
    go_wp2
    go_roundw
    case rel => exact ⟨k + 1, by omega, by go_num, HW2⟩
    case measure => simp [intOf]; omega
   ·have HT2 : Hid (zhg lo hi (k + 1) = zhg lo hi k) := (by show _ = _; rw [HT.out, HO.out, if_neg hmm, List.append_nil])
    clear HT HO HBB HLen
    obtain ⟨⟨xs, hR⟩, hBw⟩ := HW.out
    have HW2 := (show Hid (AtB w' ((wr.alloc (.cells #[.int .i32 b1, .int .i32 b2] 218)).alloc (.cells #[.int .i32 (max b1 lo), .int .i32 (min b2 hi)] 218)) u6 (zhg lo hi (k + 1))) from (by
     rw [HT2.out]
     exact ⟨⟨xs, (hR.alloc _).alloc _⟩, (hBw.alloc hBw.size _).alloc (by simp; exact Nat.le_succ_of_le hBw.size) _⟩))
    clear hR hBw HW
    go_wp2
    go_roundw
    case rel => exact ⟨k + 1, by omega, by go_num, HW2⟩
    case measure => simp [intOf]; omega
  ·obtain rfl : k = 5 := by omega
   rw [zfJ] at HW
   obtain ⟨⟨xs, hR⟩, hBw⟩ := HW.out
   go_wp2
   go_ret2
   exact ⟨⟨_, xs, rfl, hR⟩, hBw⟩
theorem zjc (lo hi : Int) (w : World) (hv : VB w) :
  Calls Tryz.prog 211 #[.int .i64 lo, .int .i64 hi] w fun e w' => ShV w w' lo hi e /\ Below w.heap.size w w' := by
 have HB1 : Hid (∀ w, Calls Tryz.prog 213 #[.int .i64 lo] w fun e w' => e = .returned (.bool (bdB lo)) /\ w' = w) := fun w => zb8 lo w
 have HB2 : Hid (∀ w, Calls Tryz.prog 213 #[.int .i64 hi] w fun e w' => e = .returned (.bool (bdB hi)) /\ w' = w) := fun w => zb8 hi w
 by_cases h0 : 0 <= lo /\ lo <= 1114111
 ·by_cases h1 : 0 <= hi /\ hi <= 1114111
  ·by_cases h2 : lo <= hi
   ·refine (zkg lo hi h0.1 h2 h1.2 w hv).mono fun e w' ⟨h3, h4⟩ => ⟨?_, h4⟩
    unfold ShV
    rw [if_pos ⟨ze0 h0, ze0 h1⟩, if_pos h2]
    exact h3
   ·have HE := (show Hid (∀ w' e, e = .returned (.tuple #[.slice none 0 0, .int .i64 1]) -> ShV w w' lo hi e) from fun w' e he => by
     unfold ShV
     rw [if_pos ⟨ze0 h0, ze0 h1⟩, if_neg h2]
     exact he)
    rw [ze0 h0] at HB1
    rw [ze0 h1] at HB2
    have h3 : hi < lo := by omega
    clear h0 h1 h2 hv
    go_enter Tryz.func211, Tryz.ntmps211
    go_wp2_with fail
    refine (HB1.out _).mono ?_
    rintro e w' ⟨rfl, rfl⟩
    go_wp2_with fail
    refine (HB2.out _).mono ?_
    rintro e w' ⟨rfl, rfl⟩
    go_wp2
    go_ret2
    exact ⟨HE.out _ _ rfl, Below.refl _ _⟩
  ·have HE := (show Hid (∀ w' e, e = .returned (.tuple #[.slice none 0 0, .int .i64 30]) -> ShV w w' lo hi e) from fun w' e he => by
    unfold ShV
    rw [if_neg (by rw [zi9 h1]; simp)]
    exact he)
   rw [ze0 h0] at HB1
   rw [zi9 h1] at HB2
   clear h0 h1 hv
   go_enter Tryz.func211, Tryz.ntmps211
   go_wp2_with fail
   refine (HB1.out _).mono ?_
   rintro e w' ⟨rfl, rfl⟩
   go_wp2_with fail
   refine (HB2.out _).mono ?_
   rintro e w' ⟨rfl, rfl⟩
   go_wp2
   go_ret2
   exact ⟨HE.out _ _ rfl, Below.refl _ _⟩
 ·have HE := (show Hid (∀ w' e, e = .returned (.tuple #[.slice none 0 0, .int .i64 30]) -> ShV w w' lo hi e) from fun w' e he => by
   unfold ShV
   rw [if_neg (by rw [zi9 h0]; simp)]
   exact he)
  rw [zi9 h0] at HB1
  clear h0 hv
  go_enter Tryz.func211, Tryz.ntmps211
  go_wp2_with fail
  refine (HB1.out _).mono ?_
  rintro e w' ⟨rfl, rfl⟩
  go_wp2
  go_ret2
  exact ⟨HE.out _ _ rfl, Below.refl _ _⟩
def SpL (W : World) (g off : Nat) (s : zbe) : Prop := ∀ (j : Nat) p, s[j]? = some p -> W.cell? ⟨g, off + j * 2, none⟩ = some (.int .i64 p.1) /\ W.cell? ⟨g, off + j * 2 + 1, none⟩ = some (.int .i64 p.2)
theorem zpp (s : zbe) (j : Nat) (p : Int × Int) (h : s[j]? = some p) : (spc s)[j * 2]? = some (.int .i64 p.1) /\ (spc s)[j * 2 + 1]? = some (.int .i64 p.2) := by
 induction s generalizing j with
 | nil => cases h
 | cons a s ih =>
  have e : spc (a :: s) = .int .i64 a.1 :: .int .i64 a.2 :: spc s := rfl
  rw [e]
  cases j with
  | zero => cases h; exact ⟨rfl, rfl⟩
  | succ j =>
   have h2 : s[j]? = some p := by simpa using h
   rw [show (j + 1) * 2 = j * 2 + 1 + 1 from by omega]
   exact ih j h2
theorem zpq {W : World} {B g n cap : Nat} {s : zbe} (h : W.ownsRow B 152 2 (.slice (some ⟨g, 0, none⟩) n cap) s.length (spc s)) : SpL W g 0 s := fun j p hp => by
 have hc := h.cells (g := g) rfl
 obtain ⟨h1, h2⟩ := zpp s j p hp
 have c1 := hc _ _ h1
 have c2 := hc _ _ h2
 rw [Addr.add_lit] at c1 c2
 exact ⟨c1, by rw [Nat.add_assoc]; exact c2⟩
theorem RR.get {W : World} {B : Nat} {v : Value} {ss : List zbe} {xs : List Value} (h : RR W B v ss xs) {i : Nat} {s : zbe} (hs : ss[i]? = some s) :
  ∃ g cap gx cx, v = .slice (some ⟨g, 0, none⟩) ss.length cap /\ g < W.heap.size /\ xs[i]? = some (.slice (some ⟨gx, 0, none⟩) s.length cx) /\ W.cell? ⟨g, i, none⟩ = some (.slice (some ⟨gx, 0, none⟩) s.length cx) /\ gx < W.heap.size /\ SpL W gx 0 s := by
 have hi : i < ss.length := by
  by_cases q : i < ss.length
  ·exact q
  ·rw [List.getElem?_eq_none (by omega)] at hs; cases hs
 have hx : xs[i]? = some (xs[i]'(by rw [h.len]; exact hi)) := List.getElem?_eq_getElem (by rw [h.len]; exact hi)
 obtain ⟨h1, h2, _⟩ := h.each i _ s hx hs
 obtain ⟨g, cap, hv, _, hlt⟩ := h.o.form (by rw [h.len]; omega)
 obtain ⟨gx, hgx, _, hlt2⟩ := h.lt hx
 have hform : ∃ cx, xs[i]'(by rw [h.len]; exact hi) = .slice (some ⟨gx, 0, none⟩) s.length cx := by
  rcases h1.2 with ⟨q, _⟩ | ⟨g2, cx, cur, q, _⟩
  ·rw [q] at h2; exact absurd rfl h2
  ·rw [q] at hgx
   have e : g2 = gx := Option.some.inj hgx
   exact ⟨cx, by rw [q, e]⟩
 obtain ⟨cx, hq⟩ := hform
 rw [hq] at hx h1
 have hcell := h.o.cells (g := g) (by rw [hv]; rfl) i _ hx
 rw [Addr.add_lit, Nat.zero_add] at hcell
 exact ⟨g, cap, gx, cx, by rw [hv, h.len], hlt, hx, hcell, hlt2, zpq h1⟩
theorem zdj (w : World) (o : Obj) : (w.alloc o).heap.size = w.heap.size + 1 := by simp
abbrev Nd := Int × BitVec 256
def ndV (n : Nd) : List Value := [.int .i64 n.1, .int .i64 0, .string ⟨#[]⟩, .int .u64 (wd n.2 0), .int .u64 (wd n.2 1), .int .u64 (wd n.2 2), .int .u64 (wd n.2 3)]
def ndc (l : List Nd) : List Value := l.flatMap ndV
theorem zdz (a b : List Nd) : ndc (a ++ b) = ndc a ++ ndc b := List.flatMap_append
theorem zee (n : Nd) : ndc [n] = ndV n := by unfold ndc; rw [List.flatMap_cons, List.flatMap_nil, List.append_nil]
def ndI (s : zbe) (i : Nat) : List Nd := match s[i]? with
 | some p => (5, spn p.1 p.2) :: (if 0 < i then [(7, 0#256)] else [])
 | none => []
def zd0 (s : zbe) (k : Nat) : List Nd := (List.range k).flatMap (ndI s)
theorem zdk (s : zbe) (k : Nat) : zd0 s (k + 1) = zd0 s k ++ ndI s k := by unfold zd0; rw [List.range_succ, List.flatMap_append]; simp
def ptI (ss : List zbe) (i : Nat) : List Nd := match ss[i]? with
 | some s => zd0 s s.length ++ (if 0 < i then [(8, 0#256)] else [])
 | none => []
def zfL (ss : List zbe) (k : Nat) : List Nd := (List.range k).flatMap (ptI ss)
theorem zdl (ss : List zbe) (k : Nat) : zfL ss (k + 1) = zfL ss k ++ ptI ss k := by unfold zfL; rw [List.range_succ, List.flatMap_append]; simp
theorem zpr (s : zbe) (i : Nat) : (ndI s i).length <= 2 := by
 unfold ndI
 split
 ·split <;> simp
 ·simp
theorem zfM (s : zbe) (k : Nat) : (zd0 s k).length <= 2 * k := by
 induction k with
 | zero => simp [zd0]
 | succ k ih => rw [zdk, List.length_append]; have := zpr s k; omega
theorem zig (ss : List zbe) (k : Nat) (h : ∀ s ∈ ss, s.length <= 4) : (zfL ss k).length <= 9 * k := by
 induction k with
 | zero => simp [zfL]
 | succ k ih =>
  rw [zdl, List.length_append]
  have : (ptI ss k).length <= 9 := by
   unfold ptI
   split
   ·next s hs =>
    have h1 := h s (List.mem_of_getElem? hs)
    have h2 := zfM s s.length
    rw [List.length_append]
    split <;> simp <;> omega
   ·simp
  omega
theorem Tryz.info80 : (Tryz.prog.info? 51).map (fun i => (i.zero, i.size, i.bytes)) = some (some (.agg #[.int .i64 0, .int .i64 0, .string ⟨#[]⟩, .int .u64 0, .int .u64 0, .int .u64 0, .int .u64 0]), 7, 64) := by kernel_rfl
abbrev ndA (op : Int) (x : BitVec 256) : Array Value := #[.int .i64 op, .int .i64 0, .string ⟨#[]⟩, .int .u64 (wd x 0), .int .u64 (wd x 1), .int .u64 (wd x 2), .int .u64 (wd x 3)]
abbrev ndZ (op : Int) : Array Value := #[.int .i64 op, .int .i64 0, .string ⟨#[]⟩, .int .u64 0, .int .u64 0, .int .u64 0, .int .u64 0]
theorem zgC (op : Int) : (ndZ op).toList = ndV (op, 0#256) := by unfold ndV; simp only [zaj]
theorem zmr (w : World) (a : Obj) (cs : Array Value) : ∀ (j : Nat) u, cs.toList[j]? = some u -> ((w.alloc a).alloc (.cells cs 51)).cell? ((⟨w.heap.size + 1, 0, none⟩ : Addr).add j) = some u :=
 World.news_of_block (t := 51) (fr := (0, 0)) (by have h := heap_alloc_new (w.alloc a) (.cells cs 51); rwa [zdj] at h)
theorem zih (w : World) (cs : Array Value) : ∀ (j : Nat) u, cs.toList[j]? = some u -> (w.alloc (.cells cs 51)).cell? ((⟨w.heap.size, 0, none⟩ : Addr).add j) = some u :=
 World.news_of_block (t := 51) (fr := (0, 0)) (heap_alloc_new w _)
theorem zgx (n : Nd) : ∀ u ∈ ndV n, u.oneCell' = true := fun u hu => by
 unfold ndV at hu
 simp only [List.mem_cons, List.not_mem_nil, or_false] at hu
 rcases hu with rfl | rfl | rfl | rfl | rfl | rfl | rfl <;> rfl
theorem zkh {W W' : World} {g off : Nat} {s : zbe} {row : Option Nat} (h : SpL W g off s) (hg : W.grownBy W' row) (hlt : g < W.heap.size) (hne : some g ≠ row) : SpL W' g off s := fun j p hp =>
 ⟨(hg.cell_far ⟨g, off + j * 2, none⟩ hlt hne).trans (h j p hp).1, (hg.cell_far ⟨g, off + j * 2 + 1, none⟩ hlt hne).trans (h j p hp).2⟩
structure AtN (w wr : World) (B : Nat) (v v' : Value) (L : List Nd) : Prop where
 o : wr.ownsRow B 51 7 v' L.length (ndc L)
 g : w.grownBy wr v.ownBlock
 k : ∀ k, v'.ownBlock = some k -> v.ownBlock = some k ∨ w.heap.size <= k
theorem AtN.below {w wr w2 : World} {B : Nat} {v v' : Value} {L : List Nd} (h : AtN w wr B v v' L) (hb : Below wr.heap.size wr w2) : AtN w w2 B v v' L :=
 ⟨za2 h.o hb, h.g.trans (Below.grow hb _), h.k⟩
theorem AtN.alloc {w wr : World} {B : Nat} {v v' : Value} {L : List Nd} (h : AtN w wr B v v' L) (o : Obj) : AtN w (wr.alloc o) B v v' L := h.below ((Below.refl _ _).alloc (Nat.le_refl _) _)
theorem AtN.push {w wr w1 : World} {B g cap : Nat} {v v' : Value} {L : List Nd} {n : Nd} {ob : Obj} (h : AtN w wr B v v' L) (hown : w1.ownsRow B 51 7 (.slice (some ⟨g, 0, none⟩) (L.length + 1) cap) (L.length + 1) (ndc L ++ ndV n)) (hgrow : (wr.alloc ob).grownBy w1 v'.ownBlock) (hat : v'.ownBlock = some g ∨ g = wr.heap.size + 1) :
  AtN w w1 B v (.slice (some ⟨g, 0, none⟩) (L.length + 1) cap) (L ++ [n]) := by
 refine ⟨by rw [List.length_append, zdz, zee]; exact hown, (h.g.trans (World.grownBy_alloc wr ob _)).andThen hgrow (fun j e => ?_), fun k e => ?_⟩
 ·rcases h.k j e with q | q
  ·exact .inr q
  ·exact .inl q
 ·have e2 : g = k := Option.some.inj e
  rcases hat with q | q
  ·rcases h.k g q with q2 | q2
   ·exact .inl (by rw [q2, e2])
   ·exact .inr (by omega)
  ·have := h.g.size
   exact .inr (by omega)
theorem zen (v : Value) (L : List Nd) (B gx cx : Nat) (s : zbe) (hs : ∀ p ∈ s, 0 <= p.1 /\ p.1 <= p.2 /\ p.2 <= 255) (hsl : s.length <= 4) (hL : L.length <= 20000000) (w : World) (ho : w.ownsRow B 51 7 v L.length (ndc L)) (hB : B <= w.heap.size) (hx : SpL w gx 0 s) (hgx : gx < w.heap.size) (hne : v.ownBlock ≠ some gx) :
  Calls Tryz.prog 212 #[v, .slice (some ⟨gx, 0, none⟩) s.length cx] w fun e w' => ∃ v', e = .returned v' /\ AtN w w' B v v' (L ++ zd0 s s.length) := by
 obtain ⟨i0, hinf, hz0, hz1, hz2⟩ := info_parts Tryz.info80
 have HA : Hid (AtN w w B v v (L ++ zd0 s 0)) := ⟨by unfold zd0; simpa using ho, World.grownBy.refl _ _, fun k e => .inl e⟩
 have HX := hO hx
 have HNe : Hid (some gx ≠ v.ownBlock) := Ne.symm hne
 have HS := hO hs
 have HG : Hid (∀ k, k < s.length -> ∃ p, s[k]? = some p) := fun k hk => ⟨_, List.getElem?_eq_getElem hk⟩
 clear ho hx hne hs
 go_enter Tryz.func212, Tryz.ntmps212
 go_wp2_with fail
 go_loopw [0, 11] (fun u t wr => ∃ k : Nat, k <= s.length /\ t = .int .i64 k /\ Hid (AtN w wr B v u (L ++ zd0 s k))) (fun _ t _ => s.length - (intOf t).toNat)
 case atStart => exact ⟨0, by omega, by go_num, HA⟩
 case round =>
  obtain ⟨k, hk, rfl, HW⟩ := hrel
  clear HA
  by_cases hlt : k < s.length
  ·obtain ⟨⟨p1, p2⟩, hp⟩ := HG.out k hlt
   have HN : Hid (zd0 s (k + 1) = zd0 s k ++ ((5, spn p1 p2) :: (if 0 < k then [(7, 0#256)] else []))) := (by show _ = _; rw [zdk]; unfold ndI; rw [hp])
   obtain ⟨b0, b1, b2⟩ := HS.out _ (List.mem_of_getElem? hp)
   obtain ⟨c0, c1⟩ := (zkh HX.out HW.out.g hgx HNe.out) k _ hp
   dsimp only at b0 b1 b2 c0 c1
   rw [Nat.zero_add] at c0 c1
   have HR : Hid (∀ w, Calls Tryz.prog 215 #[.int .i64 p1, .int .i64 p2] w fun e w' => e = .returned (.tuple #[sv (spn p1 p2), .int .i64 0]) /\ Below w.heap.size w w') := fun w => zj7 p1 p2 w b0 b1 b2
   have hll := zfM s k
   have z0 : (0 : Int) <= (k : Int) := by omega
   have z1 : (k : Int) < (s.length : Int) := by omega
   have hLl : (L ++ zd0 s k).length <= 20000008 := by rw [List.length_append]; omega
   have hwB : B <= wr.heap.size := Nat.le_trans hB HW.out.g.size
   generalize zd0 s k = T at *
   generalize hM : L ++ T = M at *
   have HM := hO hM
   clear hp hM HG HS hll
   generalize spn p1 p2 = x at *
   generalize s.length = m at *
   go_wp2_with fail
   refine (HR.out _).mono ?_
   rintro e w2 ⟨rfl, hb2⟩
   have HW2 : Hid (AtN w w2 B v u0 M) := (HW.out.alloc _).below hb2
   have hsz2 := hb2.size
   rw [zdj] at hsz2
   clear hb2 HW c0 c1
   have hO2 := HW2.out.o
   go_wp2_with (at_builtin; refine wpList_append_lies _ rfl _ _ 23 rfl B 51 i0 (.agg #[.int .i64 0, .int .i64 0, .string ⟨#[]⟩, .int .u64 0, .int .u64 0, .int .u64 0, .int .u64 0]) 7 64 Tryz.underlying23 hinf hz0 hz1 hz2 rfl (by decide) _ _ _ rfl ((hO2.alloc _).alloc _) ⟨w2.heap.size + 1, 0, none⟩ 1 1 (ndV (5, x)) rfl rfl (zmr w2 _ (ndA 5 x)) (zgx _) (by decide) ?c3 ?c4 ?c5 (w2.heap.size + 1 + 1) (by simp) ?_)
   case c3 => unfold maxLen; omega
   case c4 => omega
   case c5 => simp; omega
   intro g cap w3 hown hgrow hat hlt3
   have HW3 : Hid (AtN w w3 B v (.slice (some ⟨g, 0, none⟩) (M.length + 1) cap) (M ++ [(5, x)])) := (HW2.out.alloc _).push hown hgrow (by rw [zdj]; exact hat)
   have hsz3 := hgrow.size
   rw [zdj, zdj] at hsz3
   clear hown hgrow hat hO2 HW2
   by_cases hk0 : 0 < k
   ·have z2 : (0 : Int) < (k : Int) := by omega
    have hO3 := HW3.out.o
    have HN2 : Hid (L ++ zd0 s (k + 1) = (M ++ [(5, x)]) ++ [(7, 0#256)]) := (by show _ = _; rw [HN.out, if_pos hk0, <- HM.out]; simp)
    go_wp2_with (at_builtin; refine wpList_append_lies _ rfl _ _ 23 rfl B 51 i0 (.agg #[.int .i64 0, .int .i64 0, .string ⟨#[]⟩, .int .u64 0, .int .u64 0, .int .u64 0, .int .u64 0]) 7 64 Tryz.underlying23 hinf hz0 hz1 hz2 rfl (by decide) _ _ _ rfl (hO3.alloc _) ⟨w3.heap.size, 0, none⟩ 1 1 (ndZ 7).toList rfl rfl (zih w3 (ndZ 7)) (by rw [zgC]; exact zgx _) (by decide) ?c3 ?c4 ?c5 (w3.heap.size + 1) (by simp) ?_)
    case c3 => simp; unfold maxLen; omega
    case c4 => simp; omega
    case c5 => simp; omega
    intro g2 cap2 w4 hown hgrow hat hlt4
    have HW4 := (show Hid (AtN w w4 B v (.slice (some ⟨g2, 0, none⟩) (M.length + 1 + 1) cap2) (L ++ zd0 s (k + 1))) from (by
     have e : (M ++ [(5, x)]).length = M.length + 1 := by simp
     rw [HN2.out]
     have hp := HW3.out.push (g := g2) (cap := cap2) (n := (7, 0#256)) (by rw [e, <- zgC]; exact hown) hgrow hat
     rwa [e] at hp))
    clear hown hgrow hat hO3 HW3
    go_wp2
    go_roundw
    case rel => exact ⟨k + 1, by omega, by go_num, HW4⟩
    case measure => simp [intOf]; omega
   ·have hk00 : k = 0 := by omega
    have HN2 : Hid (L ++ zd0 s (k + 1) = M ++ [(5, x)]) := (by show _ = _; rw [HN.out, if_neg hk0, <- HM.out]; simp)
    rw [<- HN2.out] at HW3
    subst hk00
    go_wp2
    go_roundw
    case rel => exact ⟨0 + 1, by omega, by go_num, HW3⟩
    case measure => simp [intOf]; omega
  ·obtain rfl : k = s.length := by omega
   clear HG HS HX
   go_wp2
   go_ret
   exact ⟨_, rfl, HW.out⟩
theorem zfN : ∀ (f : Nat) (lo hi : Int), Blk lo hi -> (hi - lo).toNat <= f -> ∀ p ∈ pcs f lo hi, Blk p.1 p.2 /\ zdS p.1 p.2 = none
 | 0, lo, hi, h, hf, p, hp => by
  have hs : zdS lo hi = none := by
   cases hs : zdS lo hi with
   | none => rfl
   | some c => have := zbK h.cpl.2.2.2.1 h.cpl.2.2.2.2.1 hs; omega
  rw [zbA hs, List.mem_singleton] at hp
  rw [hp]; exact ⟨h, hs⟩
 | f + 1, lo, hi, h, hf, p, hp => by
  cases hs : zdS lo hi with
  | none =>
   rw [zbA hs, List.mem_singleton] at hp
   rw [hp]; exact ⟨h, hs⟩
  | some c =>
   have := zbK h.cpl.2.2.2.1 h.cpl.2.2.2.2.1 hs
   rw [zdh hs] at hp
   rcases List.mem_append.1 hp with hp | hp
   ·exact zfN f lo (c - 1) (h.cut hs).1 (by omega) p hp
   ·exact zfN f c hi (h.cut hs).2 (by omega) p hp
theorem zda {lo hi m : Int} (h : zcE lo hi m = none) : lo / m = hi / m ∨ (lo % m = 0 /\ (hi + 1) % m = 0) := by
 unfold zcE at h
 split at h
 ·next q => exact .inl q
 ·split at h
  ·cases h
  ·split at h
   ·cases h
   ·next q1 q2 q3 => exact .inr ⟨by omega, by omega⟩
theorem zps {lo hi : Int} (h : zdS lo hi = none) : (2 <= szI lo -> lo / 64 = hi / 64 ∨ (lo % 64 = 0 /\ (hi + 1) % 64 = 0)) /\ (3 <= szI lo -> lo / 4096 = hi / 4096 ∨ (lo % 4096 = 0 /\ (hi + 1) % 4096 = 0)) /\ (4 <= szI lo -> lo / 262144 = hi / 262144 ∨ (lo % 262144 = 0 /\ (hi + 1) % 262144 = 0)) := by
 unfold zdS at h
 have hb := zfk lo
 have key : ∀ (k : Nat) (m : Int), zc9 lo hi (k + 1) m = none -> zcE lo hi (m * 64) = none /\ zc9 lo hi k (m * 64) = none := fun k m hk => by
  rw [zc9] at hk
  split at hk
  ·cases hk
  ·next q => exact ⟨q, hk⟩
 refine ⟨fun h2 => ?_, fun h3 => ?_, fun h4 => ?_⟩
 ·rw [show szI lo - 1 = (szI lo - 2) + 1 from by omega] at h
  exact zda (key _ _ h).1
 ·rw [show szI lo - 1 = (szI lo - 3) + 1 + 1 from by omega] at h
  exact zda (key _ _ (key _ _ h).2).1
 ·rw [show szI lo - 1 = (szI lo - 4) + 1 + 1 + 1 from by omega] at h
  exact zda (key _ _ (key _ _ (key _ _ h).2).2).1
def ordS (s : zbe) : Prop := ∀ p ∈ s, 0 <= p.1 /\ p.1 <= p.2 /\ p.2 <= 255
theorem zms {lo hi : Int} (h : Blk lo hi) (hs : zdS lo hi = none) : ordS (shp (lo, hi)) := by
 obtain ⟨h1, h2, h3, h4, h5, h6⟩ := h.cpl
 obtain ⟨k2, k3, k4⟩ := zps hs
 unfold ordS shp
 unfold szI at *
 unfold Blk at h
 intro p hp
 rcases zfH h1 with q | q | q | q
 ·dsimp only at hp
  rw [zfF q.1 q.2, zfF (by omega) (by omega)] at hp
  simp only [List.zip_cons_cons, List.zip_nil_right, List.mem_cons, List.not_mem_nil, or_false] at hp
  rw [hp]; dsimp only; omega
 ·rw [if_neg (by omega), if_pos (by omega)] at k2
  have k2 := k2 (by omega)
  dsimp only at hp
  rw [zfG q.1 q.2, zfG (by omega) (by omega)] at hp
  simp only [List.zip_cons_cons, List.zip_nil_right, List.mem_cons, List.not_mem_nil, or_false] at hp
  rcases hp with hp | hp
  ·rw [hp]; dsimp only; omega
  ·rw [hp]; dsimp only; omega
 ·rw [if_neg (by omega), if_neg (by omega), if_pos (by omega)] at k2 k3
  have k2 := k2 (by omega)
  have k3 := k3 (by omega)
  dsimp only at hp
  rw [zdg q, zdg (by omega)] at hp
  simp only [List.zip_cons_cons, List.zip_nil_right, List.mem_cons, List.not_mem_nil, or_false] at hp
  rcases hp with hp | hp | hp
  ·rw [hp]; dsimp only; omega
  ·rw [hp]; dsimp only; omega
  ·rw [hp]; dsimp only; omega
 ·rw [if_neg (by omega), if_neg (by omega), if_neg (by omega)] at k2 k3 k4
  have k2 := k2 (by omega)
  have k3 := k3 (by omega)
  have k4 := k4 (by omega)
  dsimp only at hp
  rw [zdY q.1 q.2, zdY (by omega) (by omega)] at hp
  simp only [List.zip_cons_cons, List.zip_nil_right, List.mem_cons, List.not_mem_nil, or_false] at hp
  rcases hp with hp | hp | hp | hp
  ·rw [hp]; dsimp only; omega
  ·rw [hp]; dsimp only; omega
  ·rw [hp]; dsimp only; omega
  ·rw [hp]; dsimp only; omega
theorem zpt {lo hi : Int} (h : Blk lo hi) : ∀ s ∈ shs lo hi, ordS s /\ 1 <= s.length /\ s.length <= 4 := fun s hs => by
 obtain ⟨p, hp, rfl⟩ := List.mem_map.1 hs
 obtain ⟨h1, h2⟩ := zfN _ _ _ h (Nat.le_refl _) p hp
 have hl := zhu h1
 have := zfk p.1
 exact ⟨zms h1 h2, by rw [show p = (p.1, p.2) from rfl, hl]; omega, by rw [show p = (p.1, p.2) from rfl, hl]; omega⟩
theorem zeo (lo hi : Int) : ∀ s ∈ zdi lo hi, ordS s /\ 1 <= s.length /\ s.length <= 4 := fun s hs => by
 unfold zdi at hs
 obtain ⟨b, hb, h2⟩ := List.mem_flatMap.1 hs
 unfold zgB at h2
 obtain ⟨k, hk, rfl⟩ := List.getElem_of_mem hb
 split at h2
 ·next q => exact zpt ((zkb (List.getElem?_eq_getElem hk)).2.2.2 lo hi q) s h2
 ·cases h2
def zjG (ss : List zbe) : List Nd := if ss.length = 0 then [(2, 0#256)] else zfL ss ss.length
def PnV (w w' : World) (lo hi : Int) (e : Ending) : Prop :=
 if bdB lo = true /\ bdB hi = true then
  (if lo <= hi then ∃ v, e = .returned (.tuple #[v, .int .i64 0]) /\ w'.ownsRow w.heap.size 51 7 v (zjG (zdi lo hi)).length (ndc (zjG (zdi lo hi))) else e = .returned (.tuple #[.slice none 0 0, .int .i64 1]))
 else e = .returned (.tuple #[.slice none 0 0, .int .i64 30])
theorem zbS {w w' : World} (h : w.grownBy w' none) : Below w.heap.size w w' := ⟨h.os, h.tape, h.output, h.size, fun k hk => h.block k hk (by simp)⟩
theorem zmt (w : World) (op : Int) : (w.alloc (.cells (ndZ op) 51)).ownsRow w.heap.size 51 7 (.slice (some ⟨w.heap.size, 0, none⟩) 1 1) 1 (ndc [(op, 0#256)]) := by
 rw [zee, <- zgC]
 exact ⟨rfl, .inr ⟨w.heap.size, 1, ndZ op, rfl, Nat.le_refl _, heap_alloc_new w _, Nat.le_refl _, by unfold maxLen; omega, rfl, rfl⟩⟩
theorem ShV.err {w w' : World} {lo hi : Int} {e : Ending} (h : ShV w w' lo hi e) : (∃ c, e = .returned (.tuple #[.slice none 0 0, .int .i64 c]) /\ c ≠ 0 /\ ∀ w2 w3 e2, e2 = .returned (.tuple #[.slice none 0 0, .int .i64 c]) -> PnV w2 w3 lo hi e2) ∨
  ((∃ v xs, e = .returned (.tuple #[v, .int .i64 0]) /\ RR w' w.heap.size v (zdi lo hi) xs) /\ ∀ w2 w3 e2, (∃ v, e2 = .returned (.tuple #[v, .int .i64 0]) /\ w3.ownsRow w2.heap.size 51 7 v (zjG (zdi lo hi)).length (ndc (zjG (zdi lo hi)))) -> PnV w2 w3 lo hi e2) := by
 unfold ShV at h
 split at h
 ·next q =>
  split at h
  ·next q2 => exact .inr ⟨h, fun _ _ _ h2 => by unfold PnV; rw [if_pos q, if_pos q2]; exact h2⟩
  ·next q2 => exact .inl ⟨1, h, by omega, fun _ _ _ h2 => by unfold PnV; rw [if_pos q, if_neg q2]; exact h2⟩
 ·next q => exact .inl ⟨30, h, by omega, fun _ _ _ h2 => by unfold PnV; rw [if_neg q]; exact h2⟩
theorem zbY (lo hi : Int) (w : World) (hv : VB w) : Calls Tryz.prog 209 #[.int .i64 lo, .int .i64 hi] w fun e w' => PnV w w' lo hi e /\ Below w.heap.size w w' := by
 obtain ⟨i0, hinf, hz0, hz1, hz2⟩ := info_parts Tryz.info80
 have HS : Hid (Calls Tryz.prog 211 #[.int .i64 lo, .int .i64 hi] w fun e w' => ShV w w' lo hi e /\ Below w.heap.size w w') := zjc lo hi w hv
 have HO := hO (zeo lo hi)
 have HLn := hO (zid lo hi 5)
 rw [zfJ] at HLn
 clear hv
 go_enter Tryz.func209, Tryz.ntmps209
 go_wp2_with fail
 refine HS.out.mono ?_
 rintro e w1 ⟨hsh, hb1⟩
 have HB1 := hO hb1
 clear hb1 HS
 rcases hsh.err with ⟨c, rfl, hc, hP⟩ | ⟨⟨sv, xs, rfl, hR⟩, hP⟩
 ·have HP := hO hP
  have ec : (c != 0) = true := bne_iff_ne.2 hc
  clear hsh hP hc
  go_wp2
  go_ret2
  exact ⟨HP.out _ _ _ rfl, HB1.out⟩
 ·have HP := hO hP
  have HR := hO hR
  clear hsh hP
  generalize zdi lo hi = ss at *
  have hlx := hR.len
  obtain ⟨A, cs, rfl⟩ : ∃ A cs, sv = .slice A ss.length cs := by
   rcases hR.o.2 with ⟨rfl, h0⟩ | ⟨g, cap, cur, rfl, _⟩
   ·exact ⟨none, 0, by rw [<- hlx, h0]⟩
   ·exact ⟨_, _, by rw [hlx]⟩
  clear hR hlx
  by_cases hn : ss.length = 0
  ·have HE : Hid (zjG ss = [(2, 0#256)]) := (by show _ = _; unfold zjG; rw [if_pos hn])
   have e0 : ((ss.length : Int) == 0) = true := by rw [hn]; rfl
   have HN := hO (zmt w1 2)
   have HB2 : Hid (Below w.heap.size w (w1.alloc (.cells (ndZ 2) 51))) := HB1.out.alloc HB1.out.size _
   have hz1' := HB1.out.size
   clear HO HR HLn hn
   generalize ss.length = m at *
   go_wp2
   go_ret2
   exact ⟨HP.out _ _ _ ⟨_, rfl, by rw [HE.out]; exact zbo HN.out hz1'⟩, HB2.out⟩
  ·have HE : Hid (zjG ss = zfL ss ss.length) := (by show _ = _; unfold zjG; rw [if_neg hn])
   have e0 : ((ss.length : Int) == 0) = false := bF (by omega)
   have HG : Hid (∀ k, k < ss.length -> ∃ s, ss[k]? = some s) := fun k hk => ⟨_, List.getElem?_eq_getElem hk⟩
   have HPl : Hid (∀ k, (zfL ss k).length <= 9 * k) := fun k => zig ss k fun s hs => (HO.out s hs).2.2
   clear hn
   go_wp2_with fail
   go_loopw [8, 27] (fun u t wr => ∃ k : Nat, k <= ss.length /\ t = .int .i64 k /\ Hid (AtN w1 wr w1.heap.size (.slice none 0 0) u (zfL ss k))) (fun _ t _ => ss.length - (intOf t).toNat)
   case atStart => exact ⟨0, by omega, by go_num, ⟨World.ownsRow_nil _ _ _ _, World.grownBy.refl _ _, fun k e => .inl e⟩⟩
   case round =>
    obtain ⟨k, hk, rfl, HW⟩ := hrel
    by_cases hlt : k < ss.length
    ·obtain ⟨s, hs⟩ := HG.out k hlt
     have HBw : Hid (Below w1.heap.size w1 wr) := zbS HW.out.g
     obtain ⟨g, cap, gx, cx, hA, hgl, _, hcell, hgx, hspl⟩ := (HR.out.below HBw.out).get hs
     cases hA
     have HI : Hid (zfL ss (k + 1) = (zfL ss k ++ zd0 s s.length) ++ (if 0 < k then [(8, 0#256)] else [])) := (by show _ = _; rw [zdl]; unfold ptI; rw [hs, List.append_assoc])
     obtain ⟨ho1, _, ho3⟩ := HO.out s (List.mem_of_getElem? hs)
     have hplk := HPl.out k
     have hln := HLn.out
     obtain ⟨gx0, hgx0⟩ : ∃ q : Nat, gx < w1.heap.size := ⟨0, by
      obtain ⟨g', cap', gx', cx', hA', _, _, hc', hgx', _⟩ := HR.out.get hs
      cases hA'
      have e1 := HBw.out.cell (p := ⟨g, k, none⟩) (World.block_lt_of_cell? w1 _ hc')
      rw [hcell] at e1
      rw [hc'] at e1
      cases e1
      exact hgx'⟩
     have HAS : Hid (Calls Tryz.prog 212 #[u8, .slice (some ⟨gx, 0, none⟩) s.length cx] wr fun e w' => ∃ v', e = .returned v' /\ AtN wr w' w1.heap.size u8 v' (zfL ss k ++ zd0 s s.length)) := zen u8 (zfL ss k) w1.heap.size gx cx s ho1 ho3 (by omega) wr HW.out.o HBw.out.size hspl hgx (fun e => by
      rcases HW.out.k gx e with q | q
      ·cases q
      ·omega)
     have z0 : (0 : Int) <= (k : Int) := by omega
     have z1 : (k : Int) < (ss.length : Int) := by omega
     have z9 : (ss.length : Int) <= 1114112 := by omega
     have hndl := zfM s s.length
     have hLl : (zfL ss k ++ zd0 s s.length).length <= 20000000 := by rw [List.length_append]; omega
     generalize hM : zfL ss k ++ zd0 s s.length = M at *
     clear hM hplk hln hspl ho1 hndl
     go_wp2_with fail
     refine HAS.out.mono ?_
     rintro e w2 ⟨v2, rfl, hA2⟩
     have HW2 := (show Hid (AtN w1 w2 w1.heap.size (.slice none 0 0) v2 M) from ⟨hA2.o, HW.out.g.andThen hA2.g (fun j e => by
      rcases HW.out.k j e with q | q
      ·cases q
      ·exact .inl q), fun j e => by
       rcases hA2.k j e with q | q
       ·exact HW.out.k j q
       ·have := HBw.out.size; exact .inr (by omega)⟩)
     have hsz2 := hA2.g.size
     have hszw := HBw.out.size
     clear hA2 HAS HW HBw hcell
     by_cases hk0 : 0 < k
     ·have z2 : (0 : Int) < (k : Int) := by omega
      have hO3 := HW2.out.o
      have HI2 : Hid (zfL ss (k + 1) = M ++ [(8, 0#256)]) := (by show _ = _; rw [HI.out, if_pos hk0])
      go_wp2_with (at_builtin; refine wpList_append_lies _ rfl _ _ 23 rfl w1.heap.size 51 i0 (.agg #[.int .i64 0, .int .i64 0, .string ⟨#[]⟩, .int .u64 0, .int .u64 0, .int .u64 0, .int .u64 0]) 7 64 Tryz.underlying23 hinf hz0 hz1 hz2 rfl (by decide) _ _ _ rfl (hO3.alloc _) ⟨w2.heap.size, 0, none⟩ 1 1 (ndZ 8).toList rfl rfl (zih w2 (ndZ 8)) (by rw [zgC]; exact zgx _) (by decide) ?c3 ?c4 ?c5 (w2.heap.size + 1) (by simp) ?_)
      case c3 => unfold maxLen; omega
      case c4 => omega
      case c5 => simp; omega
      intro g2 cap2 w4 hown hgrow hat hlt4
      have HW4 := (show Hid (AtN w1 w4 w1.heap.size (.slice none 0 0) (.slice (some ⟨g2, 0, none⟩) (M.length + 1) cap2) (zfL ss (k + 1))) from (by
       rw [HI2.out]
       exact HW2.out.push (n := (8, 0#256)) (by rw [<- zgC]; exact hown) hgrow hat))
      clear hown hgrow hat hO3 HW2
      go_wp2
      go_roundw
      case rel => exact ⟨k + 1, by omega, by go_num, HW4⟩
      case measure => simp [intOf]; omega
     ·have hk00 : k = 0 := by omega
      have HI2 : Hid (zfL ss (k + 1) = M) := (by show _ = _; rw [HI.out, if_neg hk0, List.append_nil])
      rw [<- HI2.out] at HW2
      subst hk00
      go_wp2
      go_roundw
      case rel => exact ⟨0 + 1, by omega, by go_num, HW2⟩
      case measure => simp [intOf]; omega
    ·obtain rfl : k = ss.length := by omega
     have HB3 : Hid (Below w.heap.size w wr) := HB1.out.trans ((zbS HW.out.g).mono HB1.out.size)
     have hz := HB1.out.size
     rw [<- HE.out] at HW
     clear HG HR HO HPl HE
     go_wp2
     go_ret2
     exact ⟨HP.out _ _ _ ⟨_, rfl, zbo HW.out.o hz⟩, HB3.out⟩
end Go.Proofs.YtnpifgcgjgddoaaGreatDoor.R
