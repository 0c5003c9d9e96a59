/- DERIVED. Plain mathematics and walks, laid together (3). -/
import Derived.Deep.AppendLies
import Derived.LoopN
import Derived.WalkKit
import Derived.Test.YtnpifgcgjgddoaaGreatDoorRows
import Derived.Test.YtnpifgcgjgddoaaGreatDoorPb02
set_option maxRecDepth 100000
set_option maxHeartbeats 8000000
namespace Go.Proofs.YtnpifgcgjgddoaaGreatDoor
open Go.RowKit
def lnB (c : Int) : Bool := decide (0 <= c) && !(c == 10)
def zjy (s : ByteArray) : Nat -> Nat -> Nat
 | 0, i => i
 | f + 1, i => if i < s.size then (if chr s i = 45 /\ chr s (i + 1) = 45 then zjy s f (spN lnB s i) else if chr s i = 9 ∨ chr s i = 10 ∨ chr s i = 13 ∨ chr s i = 32 then zjy s f (i + 1) else i) else i
def zbT (s : ByteArray) (i : Nat) : Nat := zjy s (s.size + 1) i
def sgn (k : Nat) : List UInt8 :=
 if k = 6 then [60, 45] else if k = 27 then [45, 62] else if k = 7 then [47] else if k = 8 then [38] else if k = 9 then [33] else if k = 10 then [63] else if k = 11 then [42] else if k = 12 then [43] else if k = 16 then [40] else if k = 17 then [41]
 else if k = 18 then [46] else if k = 22 then [58, 125] else if k = 23 then [123, 124] else if k = 24 then [124, 125] else if k = 25 then [123, 126] else if k = 26 then [126, 125] else if k = 19 then [123] else if k = 20 then [125] else []
theorem zb4 {W : World} {B e s n : Nat} {v : Value} {xs : List Value} (h : W.ownsRow B e s v n xs) : ∃ A c, v = .slice A n c := by
 rcases h.2 with ⟨rfl, h0⟩ | ⟨g, cap, cur, rfl, _⟩
 ·exact ⟨none, 0, by rw [h0]⟩
 ·exact ⟨_, cap, rfl⟩
theorem TX.grown {W W' : World} {b : Nat} {t : Tk} {X : Option Nat} (h : TX W b t) (hg : W.grownBy W' X) (hx : X ≠ some b) : TX W' b t := h.same (hg.block b h.lt (fun e => hx e.symm))
theorem zoY {W W' : World} {B e s n : Nat} {v : Value} {xs : List Value} (h : W.ownsRow B e s v n xs) (hb : Below W.heap.size W W') : W'.ownsRow B e s v n xs := by
 refine ⟨h.1, ?_⟩
 rcases h.2 with hn | ⟨g, cap, cur, rfl, hB, hgg, rest⟩
 ·exact .inl hn
 ·refine .inr ⟨g, cap, cur, rfl, hB, ?_, rest⟩
  rw [hb.block g (Array.getElem?_eq_some_iff.1 hgg).1]
  exact hgg
theorem zoZ (s : ByteArray) : ∀ f i, i <= s.size -> i <= zjy s f i /\ zjy s f i <= s.size := by
 intro f
 induction f with
 | zero => intro i hi; exact ⟨Nat.le_refl _, hi⟩
 | succ f ih =>
  intro i hi
  rw [zjy]
  split
  ·split
   ·have h1 := zbo lnB s (by decide) i
    have h2 := zbQ lnB s (by decide) i hi
    obtain ⟨a, b⟩ := ih (spN lnB s i) h2
    exact ⟨by omega, b⟩
   ·split
    ·obtain ⟨a, b⟩ := ih (i + 1) (by omega)
     exact ⟨by omega, b⟩
    ·exact ⟨Nat.le_refl _, hi⟩
  ·exact ⟨Nat.le_refl _, hi⟩
theorem zc8 {s : ByteArray} {i : Nat} (h : i <= s.size) : i <= zbT s i /\ zbT s i <= s.size := zoZ s _ i h
def tkV (t : Tk) : List Value := [.int .i64 t.kd, .int .i64 t.nn, .int .i64 t.fr, .int .i64 t.en, .string t.tx, .int .u64 t.s0, .int .u64 t.s1, .int .u64 t.s2, .int .u64 t.s3]
def tkc (l : List Tk) : List Value := l.flatMap tkV
theorem ze7 (a b : List Tk) : tkc (a ++ b) = tkc a ++ tkc b := List.flatMap_append
theorem zjP (t : Tk) : tkc [t] = tkV t := by unfold tkc; rw [List.flatMap_cons, List.flatMap_nil, List.append_nil]
theorem zn6 (t : Tk) : ∀ u ∈ tkV t, u.oneCell' = true := fun u hu => by
 simp only [tkV, List.mem_cons, List.not_mem_nil, or_false] at hu
 rcases hu with rfl | rfl | rfl | rfl | rfl | rfl | rfl | rfl | rfl <;> rfl
def zcW (one : Nat -> Sum Tk (Nat × Int)) (s : ByteArray) : Nat -> List Tk -> Nat -> Sum (List Tk) (Nat × Int)
 | 0, out, _ => .inl out
 | f + 1, out, i => if i < s.size then (match one i with
  | .inr q => .inr q
  | .inl t => zcW one s f (out ++ [t]) (zbT s t.en.toNat)) else .inl out
def zcl (one : Nat -> Sum Tk (Nat × Int)) (s : ByteArray) : Sum (List Tk) (Nat × Int) := if 65536 < s.size then .inr (0, 2) else zcW one s (s.size + 1) [] (zbT s 0)
theorem Tryz.info36 : (Tryz.prog.info? 115).map (fun i => (i.zero, i.size, i.bytes)) = some (some (tkG tk0), 9, 80) := by kernel_rfl
theorem eq26 (a b c d : Int) (w : World) : (Op.equalIn 10000 39 (.agg #[.int .i64 a, .int .i64 b]) (.agg #[.int .i64 c, .int .i64 d])).run Tryz.prog w = .ok (a == c && b == d) w := by
 have u3 := Tryz.underlying3
 have a3 := Tryz.isAgg3
 have z3 := Tryz.sizeOf3
 have u4 := Tryz.underlying25
 have a4 := Tryz.isAgg25
 have z4 := Tryz.sizeOf25
 have hS : Tryz.prog.underlying 39 = some (.struct (Tryz.prog.fieldsOf 39)) := by kernel_rfl
 have hp : Tryz.prog.stoodInHeld 39 = false := by kernel_rfl
 rw [show (10000 : Nat) = 9999 + 1 from rfl, run_equalIn_agg w 9999 39 _ _ hS hp]
 simp only [Program.fieldsOf, Tryz.underlying39]
 go_simp
 by_cases h1 : a = c <;> by_cases h2 : b = d <;> simp [h1, h2]
structure TR (W : World) (g o : Nat) (t : Tk) : Prop where
 c0 : W.cell? ⟨g, o, none⟩ = some (.int .i64 t.kd)
 c1 : W.cell? ⟨g, o + 1, none⟩ = some (.int .i64 t.nn)
 c2 : W.cell? ⟨g, o + 2, none⟩ = some (.int .i64 t.fr)
 c3 : W.cell? ⟨g, o + 3, none⟩ = some (.int .i64 t.en)
 c4 : W.cell? ⟨g, o + 4, none⟩ = some (.string t.tx)
 c5 : W.cell? ⟨g, o + 5, none⟩ = some (.int .u64 t.s0)
 c6 : W.cell? ⟨g, o + 6, none⟩ = some (.int .u64 t.s1)
 c7 : W.cell? ⟨g, o + 7, none⟩ = some (.int .u64 t.s2)
 c8 : W.cell? ⟨g, o + 8, none⟩ = some (.int .u64 t.s3)
structure RdT (W : World) (A : Option Addr) (L : List Tk) : Prop where
 rd : L ≠ [] -> ∃ g, A = some ⟨g, 0, none⟩ /\ g < W.heap.size /\ ∀ (k : Nat) t, L[k]? = some t -> TR W g (k * 9) t
theorem zo0 (L : List Tk) : ∀ (k j : Nat) (t : Tk) (u : Value), L[k]? = some t -> (tkV t)[j]? = some u -> (tkc L)[k * 9 + j]? = some u := by
 induction L with
 | nil => intro k j t u h; simp at h
 | cons a L ih =>
  intro k j t u h hj
  have e : tkc (a :: L) = tkV a ++ tkc L := by unfold tkc; rw [List.flatMap_cons]
  have hl : (tkV a).length = 9 := rfl
  rw [e]
  cases k with
  | zero =>
   have h : a = t := by simpa using h
   subst h
   rw [Nat.zero_mul, Nat.zero_add, List.getElem?_append_left (by have := (List.getElem?_eq_some_iff.1 hj).1; omega)]
   exact hj
  | succ k =>
   rw [List.getElem?_append_right (by omega), hl, show (k + 1) * 9 + j - 9 = k * 9 + j from by omega]
   exact ih k j t u (by simpa using h) hj
theorem zo1 {W : World} {B n : Nat} {v : Value} {L : List Tk} (h : W.ownsRow B 115 9 v n (tkc L)) (hn : n = L.length) : ∃ A c, v = .slice A L.length c /\ RdT W A L := by
 subst hn
 have hc := h
 rcases h.2 with ⟨rfl, h0⟩ | ⟨g, cap, cur, rfl, _⟩
 ·exact ⟨none, 0, by rw [h0], ⟨fun hl => absurd (List.eq_nil_of_length_eq_zero h0) hl⟩⟩
 ·refine ⟨_, cap, rfl, ⟨fun _ => ⟨g, rfl, (hc.lt g rfl).2, fun k t hk => ?_⟩⟩⟩
  have key : ∀ j u, (tkV t)[j]? = some u -> W.cell? ⟨g, k * 9 + j, none⟩ = some u := fun j u hj => by
   have := (hc.cells (g := g) rfl) (k * 9 + j) u (zo0 L k j t u hk hj)
   rwa [Addr.add_lit, Nat.zero_add] at this
  exact ⟨key 0 _ rfl, key 1 _ rfl, key 2 _ rfl, key 3 _ rfl, key 4 _ rfl, key 5 _ rfl, key 6 _ rfl, key 7 _ rfl, key 8 _ rfl⟩
def hxB (c : Int) : Bool := dgB c || (decide (97 <= c) && decide (c <= 102))
def blB (c : Int) : Bool := c == 9 || c == 10 || c == 13 || c == 32
theorem zaJ (c : Int) (w : World) : Calls Tryz.prog 110 #[.int .u8 c] w fun e w' => e = .returned (.bool (hdB c)) /\ w' = w := by
 by_cases a1 : 97 <= c <;> by_cases a2 : c <= 122 <;> by_cases a3 : 65 <= c <;> by_cases a4 : c <= 90 <;> by_cases a5 : c = 95 <;> first
  | (exfalso; omega)
  | (subst a5; go_enter Tryz.func110, Tryz.ntmps110; go_wp2_with fail; go_ret; exact ⟨rfl, rfl⟩)
  | (have a6 : (c == 95) = false := bF a5; go_enter Tryz.func110, Tryz.ntmps110; go_wp2_with fail; go_ret; exact ⟨by simp [hdB, *], rfl⟩)
theorem za0 (c : Int) (w : World) : Calls Tryz.prog 112 #[.int .u8 c] w fun e w' => e = .returned (.bool (dgB c)) /\ w' = w := by
 by_cases a1 : 48 <= c <;> by_cases a2 : c <= 57 <;> first
  | (exfalso; omega)
  | (go_enter Tryz.func112, Tryz.ntmps112; go_wp2_with fail; go_ret; exact ⟨by simp [dgB, *], rfl⟩)
theorem zg0 (c : Int) (w : World) : Calls Tryz.prog 134 #[.int .u8 c] w fun e w' => e = .returned (.bool (nmB c)) /\ w' = w := by
 have HH : Hid (∀ w, Calls Tryz.prog 110 #[.int .u8 c] w fun e w' => e = .returned (.bool (hdB c)) /\ w' = w) := fun w => zaJ c w
 have HD : Hid (∀ w, Calls Tryz.prog 112 #[.int .u8 c] w fun e w' => e = .returned (.bool (dgB c)) /\ w' = w) := fun w => za0 c w
 cases hh : hdB c with
 | true =>
  have HE : Hid (nmB c = true) := by show nmB c = true; unfold nmB; rw [hh]; rfl
  rw [hh] at HH
  clear HD hh
  go_enter Tryz.func134, Tryz.ntmps134
  go_wp2_with fail
  refine (HH.out _).mono ?_
  rintro e w ⟨rfl, rfl⟩
  go_wp2_with fail
  go_ret
  exact ⟨by rw [HE.out]; rfl, rfl⟩
 | false =>
  have HE : Hid (nmB c = dgB c) := by show nmB c = _; unfold nmB; rw [hh]; rfl
  rw [hh] at HH
  clear hh
  go_enter Tryz.func134, Tryz.ntmps134
  go_wp2_with fail
  refine (HH.out _).mono ?_
  rintro e w ⟨rfl, rfl⟩
  go_wp2_with fail
  refine (HD.out _).mono ?_
  rintro e w ⟨rfl, rfl⟩
  go_wp2_with fail
  go_ret
  exact ⟨by rw [HE.out]; rfl, rfl⟩
theorem zjQ (c : Int) (w : World) : Calls Tryz.prog 177 #[.int .u8 c] w fun e w' => e = .returned (.bool (hxB c)) /\ w' = w := by
  have HD : Hid (∀ w, Calls Tryz.prog 112 #[.int .u8 c] w fun e w' => e = .returned (.bool (dgB c)) /\ w' = w) := fun w => za0 c w
  cases hh : dgB c with
  | true =>
    have HE : Hid (hxB c = true) := by show hxB c = true; unfold hxB; rw [hh]; rfl
    rw [hh] at HD
    clear hh
    go_enter Tryz.func177, Tryz.ntmps177
    go_wp2_with fail
    refine (HD.out _).mono ?_
    rintro e w ⟨rfl, rfl⟩
    go_wp2_with fail
    go_ret
    exact ⟨by rw [HE.out]; rfl, rfl⟩
  | false =>
    have HE : Hid (hxB c = (decide (97 <= c) && decide (c <= 102))) := by show hxB c = _; unfold hxB; rw [hh]; rfl
    rw [hh] at HD
    clear hh
    by_cases a1 : 97 <= c <;> by_cases a2 : c <= 102 <;> first
      | (exfalso; omega)
      | (go_enter Tryz.func177, Tryz.ntmps177
         go_wp2_with fail
         refine (HD.out _).mono ?_
         rintro e w ⟨rfl, rfl⟩
         go_wp2_with fail
         go_ret
         exact ⟨by rw [HE.out]; simp [*], rfl⟩)
theorem zem (F : Nat) (P : Int -> Bool) (hn : P (-1) = false) (he : ∀ args w, (callFunc F args).run Tryz.prog w = .ok (.enter F args) w)
  (HC : ∀ c w, Calls Tryz.prog F #[.int .u8 c] w fun e w' => e = .returned (.bool (P c)) /\ w' = w) (s : ByteArray) (i : Nat) (hs : s.size <= 140737488355328) (hi : i <= s.size) (w : World) :
  Calls Tryz.prog 133 #[.string s, .int .i64 i, .func (.func F) #[] #[]] w fun e w' => e = .returned (.int .i64 (spN P s i)) /\ w' = w := by
 have HP : Hid (∀ k (h : k < s.size) w, Calls Tryz.prog F #[.int .u8 (s[k].toNat : Int)] w fun e w' => e = .returned (.bool (P (chr s k))) /\ w' = w) := fun k h w => by rw [zak h]; exact HC _ w
 have HN : Hid (∀ k, P (chr s k) = true -> spN P s k = spN P s (k + 1)) := fun k h => (zbn hn h).2
 have HS : Hid (∀ k, P (chr s k) = false -> spN P s k = k) := fun k h => zb3 h
 have HO : Hid (∀ k, ¬ k < s.size -> spN P s k = k) := fun k h => zb3 (by rw [zau h]; exact hn)
 clear HC
 go_enter Tryz.func133, Tryz.ntmps133
 go_wp2_with fail
 go_loopw [1] (fun t wr => ∃ k : Nat, k <= s.size /\ t = .int .i64 k /\ wr = w /\ Hid (spN P s k = spN P s i)) (fun t _ => s.size - (intOf t).toNat)
 case atStart => exact ⟨i, hi, rfl, rfl, rfl⟩
 case round =>
  obtain ⟨k, hk, rfl, rfl, HI⟩ := hrel
  have z0 : (0 : Int) <= (k : Int) := by omega
  by_cases h1 : k < s.size
  ·have z1 : (k : Int) < (s.size : Int) := by omega
   have HPk := hO (HP.out k h1)
   cases hp : P (chr s k) with
   | true =>
    have HI2 : Hid (spN P s (k + 1) = spN P s i) := (HN.out k hp).symm.trans HI.out
    rw [hp] at HPk
    clear HP HN HS HO hp HI
    go_wp2_with fail
    refine (HPk.out _).mono ?_
    rintro e w ⟨rfl, rfl⟩
    go_wp2_with fail
    go_roundw
    case rel => exact ⟨k + 1, by omega, by go_num, trivial, HI2⟩
    case measure => simp [intOf]; omega
   | false =>
    have HI2 : Hid (spN P s i = k) := HI.out.symm.trans (HS.out k hp)
    rw [hp] at HPk
    clear HP HN HS HO hp HI
    go_wp2_with fail
    refine (HPk.out _).mono ?_
    rintro e w ⟨rfl, rfl⟩
    go_wp2_with fail
    go_ret
    exact ⟨by rw [HI2.out]; rfl, rfl⟩
  ·have z1 : ¬ (k : Int) < (s.size : Int) := by omega
   have HI2 : Hid (spN P s i = k) := HI.out.symm.trans (HO.out k h1)
   clear HP HN HS HO HI
   go_wp2_with fail
   go_ret
   exact ⟨by rw [HI2.out]; rfl, rfl⟩
theorem zg1 (s : ByteArray) (i : Nat) (hs : s.size <= 140737488355328) (hi : i <= s.size) (w : World) :
  Calls Tryz.prog 133 #[.string s, .int .i64 i, .func (.func 134) #[] #[]] w fun e w' => e = .returned (.int .i64 (spN nmB s i)) /\ w' = w := zem 134 nmB (by decide) (enters_of Tryz.func134 (by kernel_rfl) rfl) zg0 s i hs hi w
theorem zbD (s : ByteArray) (i : Nat) (hs : s.size <= 140737488355328) (hi : i <= s.size) (w : World) :
  Calls Tryz.prog 133 #[.string s, .int .i64 i, .func (.func 112) #[] #[]] w fun e w' => e = .returned (.int .i64 (spN dgB s i)) /\ w' = w := zem 112 dgB (by decide) (enters_of Tryz.func112 (by kernel_rfl) rfl) za0 s i hs hi w
theorem ziW (s : ByteArray) (i : Nat) (hs : s.size <= 140737488355328) (hi : i <= s.size) (w : World) :
  Calls Tryz.prog 133 #[.string s, .int .i64 i, .func (.func 177) #[] #[]] w fun e w' => e = .returned (.int .i64 (spN hxB s i)) /\ w' = w := zem 177 hxB (by decide) (enters_of Tryz.func177 (by kernel_rfl) rfl) zjQ s i hs hi w
abbrev fxO (p e : Int) : Obj := .cells #[.int .i64 p, .int .i64 e] 39
structure FX (W : World) (b : Nat) (p e : Int) : Prop where
 heap : W.heap[b]? = some (.cells #[.int .i64 p, .int .i64 e] 39 (0, 0))
theorem FX.lt {W : World} {b : Nat} {p e : Int} (h : FX W b p e) : b < W.heap.size := (Array.getElem?_eq_some_iff.1 h.heap).1
theorem FX.below {W W' : World} {b : Nat} {p e : Int} (h : FX W b p e) (hb : Below W.heap.size W W') : FX W' b p e := ⟨(hb.block b h.lt).trans h.heap⟩
theorem FX.c0 {W : World} {b : Nat} {p e : Int} (h : FX W b p e) : W.cell? ⟨b, 0, none⟩ = some (.int .i64 p) := by rw [cell_of_row W b 0 _ 39 (0, 0) h.heap]; rfl
theorem FX.c1 {W : World} {b : Nat} {p e : Int} (h : FX W b p e) : W.cell? ⟨b, 1, none⟩ = some (.int .i64 e) := by rw [cell_of_row W b 1 _ 39 (0, 0) h.heap]; rfl
theorem FX.f0 {W : World} {b : Nat} {p e : Int} (h : FX W b p e) : W.frozen? ⟨b, 0, none⟩ = false := frozen_of_row W b 0 _ 39 h.heap
theorem FX.f1 {W : World} {b : Nat} {p e : Int} (h : FX W b p e) : W.frozen? ⟨b, 1, none⟩ = false := frozen_of_row W b 1 _ 39 h.heap
structure BX (w W : World) (t : Tk) (p e : Int) : Prop where
 b : Below w.heap.size w W
 x : TX W w.heap.size t
 f : FX W (w.heap.size + 1) p e
theorem BX.made (w : World) (t : Tk) (p e : Int) : BX w ((w.alloc (tkO t)).alloc (fxO p e)) t p e := by
 have h1 : (w.alloc (tkO t)).heap.size = w.heap.size + 1 := World.size_alloc _ _
 refine ⟨(zaa w _).alloc (by omega) _, (TX.new w t).below (zaa _ _), ⟨?_⟩⟩
 have h := heap_alloc_new (w.alloc (tkO t)) (fxO p e)
 rw [h1] at h
 exact h
theorem BX.new (w : World) : BX w ((w.alloc (tkO tk0)).alloc (fxO 0 0)) tk0 0 0 := BX.made w tk0 0 0
theorem BX.below {w W W' : World} {t : Tk} {p e : Int} (h : BX w W t p e) (hb : Below W.heap.size W W') : BX w W' t p e := ⟨h.b.trans (hb.mono h.b.size), h.x.below hb, h.f.below hb⟩
theorem BX.size {w W : World} {t : Tk} {p e : Int} (h : BX w W t p e) : w.heap.size + 1 < W.heap.size := h.f.lt
structure BF (w W : World) : Prop where
 x0 : W.frozen? ⟨w.heap.size, 0, none⟩ = false
 x1 : W.frozen? ⟨w.heap.size, 1, none⟩ = false
 x2 : W.frozen? ⟨w.heap.size, 2, none⟩ = false
 x3 : W.frozen? ⟨w.heap.size, 3, none⟩ = false
 x4 : W.frozen? ⟨w.heap.size, 4, none⟩ = false
 x5 : W.frozen? ⟨w.heap.size, 5, none⟩ = false
 x6 : W.frozen? ⟨w.heap.size, 6, none⟩ = false
 x7 : W.frozen? ⟨w.heap.size, 7, none⟩ = false
 x8 : W.frozen? ⟨w.heap.size, 8, none⟩ = false
 f0 : W.frozen? ⟨w.heap.size + 1, 0, none⟩ = false
 f1 : W.frozen? ⟨w.heap.size + 1, 1, none⟩ = false
structure BC (w W : World) (t : Tk) (p e : Int) : Prop where
 c0 : W.cell? ⟨w.heap.size, 0, none⟩ = some (.int .i64 t.kd)
 c1 : W.cell? ⟨w.heap.size, 1, none⟩ = some (.int .i64 t.nn)
 c2 : W.cell? ⟨w.heap.size, 2, none⟩ = some (.int .i64 t.fr)
 c3 : W.cell? ⟨w.heap.size, 3, none⟩ = some (.int .i64 t.en)
 c4 : W.cell? ⟨w.heap.size, 4, none⟩ = some (.string t.tx)
 c5 : W.cell? ⟨w.heap.size, 5, none⟩ = some (.int .u64 t.s0)
 c6 : W.cell? ⟨w.heap.size, 6, none⟩ = some (.int .u64 t.s1)
 c7 : W.cell? ⟨w.heap.size, 7, none⟩ = some (.int .u64 t.s2)
 c8 : W.cell? ⟨w.heap.size, 8, none⟩ = some (.int .u64 t.s3)
 d0 : W.cell? ⟨w.heap.size + 1, 0, none⟩ = some (.int .i64 p)
 d1 : W.cell? ⟨w.heap.size + 1, 1, none⟩ = some (.int .i64 e)
theorem BX.fz {w W : World} {t : Tk} {p e : Int} (h : BX w W t p e) : BF w W := by
 obtain ⟨a, b, c, d, e, f, g, i, j⟩ := h.x.fz
 exact ⟨a, b, c, d, e, f, g, i, j, h.f.f0, h.f.f1⟩
theorem BX.cells {w W : World} {t : Tk} {p e : Int} (h : BX w W t p e) : BC w W t p e := by
 obtain ⟨a, b, c, d, e, f, g, i, j⟩ := h.x.cells
 exact ⟨a, b, c, d, e, f, g, i, j, h.f.c0, h.f.c1⟩
abbrev stF (W : World) (b : Nat) (p e : Int) : World := (W.setCell ⟨b, 0, none⟩ (.int .i64 p)).setCell ⟨b, 1, none⟩ (.int .i64 e)
theorem zen {W : World} {b : Nat} {p0 e0 : Int} (h : FX W b p0 e0) (p e : Int) : FX (stF W b p e) b p e := by
 have h := h.heap
 have h0 := heap_setCell_same _ b 0 _ 39 (.int .i64 p) h
 have h1 := heap_setCell_same _ b 1 _ 39 (.int .i64 e) h0
 refine ⟨?_⟩
 rw [h1]
 simp
theorem zcA {W : World} {b k : Nat} (p e : Int) (hk : k ≠ b) : (stF W b p e).heap[k]? = W.heap[k]? := by
 rw [Below.heap_setCell _ _ _ _ hk, Below.heap_setCell _ _ _ _ hk]
theorem zjR {W : World} {b k : Nat} (t : Tk) (hk : k ≠ b) : (st9 W b t).heap[k]? = W.heap[k]? := by
 rw [Below.heap_setCell _ _ _ _ hk, Below.heap_setCell _ _ _ _ hk, Below.heap_setCell _ _ _ _ hk, Below.heap_setCell _ _ _ _ hk, Below.heap_setCell _ _ _ _ hk, Below.heap_setCell _ _ _ _ hk, Below.heap_setCell _ _ _ _ hk, Below.heap_setCell _ _ _ _ hk, Below.heap_setCell _ _ _ _ hk]
theorem BX.put {w W : World} {t0 : Tk} {p0 e0 : Int} (h : BX w W t0 p0 e0) (t : Tk) (p e : Int) : BX w (stF (st9 W w.heap.size t) (w.heap.size + 1) p e) t p e := by
 refine ⟨?_, ⟨?_⟩, ?_⟩
 ·exact ((zgb h.b (Nat.le_refl _) t).setCell (p := ⟨w.heap.size + 1, 0, none⟩) (by show w.heap.size <= w.heap.size + 1; omega) _).setCell (p := ⟨w.heap.size + 1, 1, none⟩) (by show w.heap.size <= w.heap.size + 1; omega) _
 ·rw [zcA p e (by omega)]; exact (zn5 h.x t).heap
 ·exact zen ⟨(zjR t (by omega)).trans h.f.heap⟩ p e
abbrev zaE (t : Tk) (p e : Int) : Value := .tuple #[tkG t, .agg #[.int .i64 p, .int .i64 e]]
def zaP : Sum Tk (Nat × Int) -> Value
 | .inl t => zaE t 0 0
 | .inr q => zaE tk0 q.1 q.2
theorem zag {fn : Func} {R : Ending -> World -> Prop} {a : Act} {w W : World} {t : Tk} {p e : Int} {i j : Nat} (hF : fn.results = #[.cell i 115, .cell j 39]) (hd : a.defers = []) (h4 : a.tmps.getD i undef = .pointer (some ⟨w.heap.size, 0, none⟩)) (h5 : a.tmps.getD j undef = .pointer (some ⟨w.heap.size + 1, 0, none⟩)) (hT : BX w W t p e) (hR : R (.returned (zaE t p e)) W) : bodyPost Tryz.prog fn R .ret a W := by
 obtain ⟨c0, c1, c2, c3, c4, c5, c6, c7, c8, d0, d1⟩ := hT.cells
 refine bodyPost_ret (v := zaE t p e) ?_ hd hR
 simp only [Array.getD_eq_getD_getElem?] at h4 h5
 simp [results, hF, go_sem, h4, h5, c0, c1, c2, c3, c4, c5, c6, c7, c8, d0, d1]
theorem zax (i e0 : Int) (w : World) : Calls Tryz.prog 135 #[.int .i64 i, .int .i64 e0] w fun e w' => e = .returned (zaE tk0 i e0) /\ Below w.heap.size w w' := by
 go_enter Tryz.func135, Tryz.ntmps135
 go_wp2_with fail
 exact zag rfl rfl rfl rfl (BX.made w tk0 i e0) ⟨rfl, (BX.made w tk0 i e0).b⟩
def pfx (s : ByteArray) (i : Nat) : List UInt8 -> Bool
 | [] => true
 | c :: l => chr s i == (c.toNat : Int) && pfx s (i + 1) l
theorem zmv (s : ByteArray) : ∀ (p : List UInt8) (i : Nat), i <= s.size -> p.isPrefixOf (s.extract i s.size).data.toList = pfx s i p := by
 intro p
 induction p with
 | nil => intro i _; simp [pfx]
 | cons c p ih =>
  intro i hi
  rw [pfx]
  by_cases h : i < s.size
  ·have e : (s.extract i s.size).data.toList = s[i] :: (s.extract (i + 1) s.size).data.toList := by
    have h1 : s.data.size = s.size := rfl
    have hd : i < s.data.size := h
    rw [ByteArray.data_extract, ByteArray.data_extract, Array.toList_extract, Array.toList_extract, List.extract_eq_take_drop, List.extract_eq_take_drop,
     List.take_of_length_le (by rw [List.length_drop, Array.length_toList]; omega), List.take_of_length_le (by rw [List.length_drop, Array.length_toList]; omega),
     List.drop_eq_getElem_cons (by rw [Array.length_toList]; omega)]
    rfl
   rw [e, List.isPrefixOf, ih (i + 1) (by omega), zak h]
   congr 1
   by_cases q : c = s[i]
   ·subst q; simp
   ·have h2 : ¬ (s[i].toNat : Int) = (c.toNat : Int) := fun e => q (UInt8.toNat_inj.1 (by omega))
    rw [bF q, bF h2]
  ·have e : (s.extract i s.size).data.toList = [] := by
    have h1 : (s.extract i s.size).size = 0 := by rw [ByteArray.size_extract]; omega
    exact List.eq_nil_of_length_eq_zero h1
   have : ((-1 : Int) == (c.toNat : Int)) = false := by rw [beq_eq_false_iff_ne]; omega
   rw [e, zau h, this]; rfl
theorem zar (s : ByteArray) (i : Nat) (p : ByteArray) (hi : i <= s.size) (w : World) : Calls Tryz.prog 86 #[.string s, .int .i64 i, .string p] w fun e w' => e = .returned (.bool (pfx s i p.data.toList)) /\ w' = w := by
 have H : Hid (∀ w, Calls Tryz.prog 109 #[.string (s.extract i s.size), .string p] w fun e w' => e = .returned (.bool (pfx s i p.data.toList)) /\ w' = w) := fun w => by
  have h := Tryz.strings_HasPrefix (s.extract i s.size) p w
  rw [Lib.hasPrefix, zmv s _ i hi] at h
  exact h
 have z0 : (0 : Int) <= (i : Int) := by omega
 have z1 : (i : Int) <= (s.size : Int) := by omega
 go_enter Tryz.func86, Tryz.ntmps86
 go_wp2_with fail
 refine (H.out _).mono ?_
 rintro e w ⟨rfl, rfl⟩
 go_wp2_with fail
 go_ret
 exact ⟨rfl, rfl⟩
theorem zg2 (s : ByteArray) (i : Nat) (hs : s.size <= 140737488355328) (hi : i <= s.size) (w : World) : Calls Tryz.prog 87 #[.string s, .int .i64 i] w fun e w' => e = .returned (.int .i64 (spN lnB s i)) /\ w' = w := by
 have HN : Hid (∀ k, lnB (chr s k) = true -> spN lnB s k = spN lnB s (k + 1)) := fun k h => (zbn (by decide) h).2
 have HS : Hid (∀ k, lnB (chr s k) = false -> spN lnB s k = k) := fun k h => zb3 h
 go_enter Tryz.func87, Tryz.ntmps87
 go_wp2_with fail
 go_loopw [1] (fun t wr => ∃ k : Nat, k <= s.size /\ t = .int .i64 k /\ wr = w /\ Hid (spN lnB s k = spN lnB s i)) (fun t _ => s.size - (intOf t).toNat)
 case atStart => exact ⟨i, hi, rfl, rfl, rfl⟩
 case round =>
  obtain ⟨k, hk, rfl, rfl, HI⟩ := hrel
  have z0 : (0 : Int) <= (k : Int) := by omega
  by_cases h1 : k < s.size
  ·have z1 : (k : Int) < (s.size : Int) := by omega
   have hc := zak h1
   have hb := zdd s k
   by_cases h10 : chr s k = 10
   ·have v : ((s[k].toNat : Int) != 10) = false := by rw [<- hc, h10]; rfl
    have HI2 : Hid (spN lnB s i = k) := HI.out.symm.trans (HS.out k (by rw [h10]; rfl))
    clear HN HS HI hc hb h10
    go_wp2_with fail
    go_ret
    exact ⟨by rw [HI2.out]; rfl, rfl⟩
   ·have v : ((s[k].toNat : Int) != 10) = true := by rw [<- hc, bne, bF h10]; rfl
    have HI2 : Hid (spN lnB s (k + 1) = spN lnB s i) := (HN.out k (by unfold lnB; rw [bF h10, decide_eq_true (show 0 <= chr s k by rw [hc]; omega)]; rfl)).symm.trans HI.out
    clear HN HS HI hc hb h10
    go_wp2_with fail
    go_roundw
    case rel => exact ⟨k + 1, by omega, by go_num, trivial, HI2⟩
    case measure => simp [intOf]; omega
  ·have z1 : ¬ (k : Int) < (s.size : Int) := by omega
   have HI2 : Hid (spN lnB s i = k) := HI.out.symm.trans (HS.out k (by rw [zau h1]; rfl))
   clear HN HS HI
   go_wp2_with fail
   go_ret
   exact ⟨by rw [HI2.out]; rfl, rfl⟩
theorem ziX (s : ByteArray) (i : Nat) (hs : s.size <= 140737488355328) (hi : i <= s.size) (w : World) : Calls Tryz.prog 85 #[.string s, .int .i64 i] w fun e w' => e = .returned (.int .i64 (spN blB s i)) /\ w' = w := by
 have HN : Hid (∀ k, blB (chr s k) = true -> spN blB s k = spN blB s (k + 1)) := fun k h => (zbn (by decide) h).2
 have HS : Hid (∀ k, blB (chr s k) = false -> spN blB s k = k) := fun k h => zb3 h
 go_enter Tryz.func85, Tryz.ntmps85
 go_wp2_with fail
 go_step3
 go_wp2_with fail
 go_step3
 go_wp2_with fail
 go_loopw [1] (fun t wr => ∃ k : Nat, k <= s.size /\ t = .int .i64 k /\ wr = w /\ Hid (spN blB s k = spN blB s i)) (fun t _ => s.size - (intOf t).toNat)
 case atStart => exact ⟨i, hi, rfl, rfl, rfl⟩
 case round =>
  obtain ⟨k, hk, rfl, rfl, HI⟩ := hrel
  have z0 : (0 : Int) <= (k : Int) := by omega
  by_cases h1 : k < s.size
  ·have z1 : (k : Int) < (s.size : Int) := by omega
   have hc := zak h1
   cases hb : blB (chr s k) with
   | true =>
    have HI2 : Hid (spN blB s (k + 1) = spN blB s i) := (HN.out k hb).symm.trans HI.out
    have hor : chr s k = 9 ∨ chr s k = 10 ∨ chr s k = 13 ∨ chr s k = 32 := by
     unfold blB at hb
     simpa [Bool.or_eq_true, or_assoc] using hb
    rw [hc] at hor
    clear HN HS HI hc hb
    rcases hor with hv | hv | hv | hv
    ·have v0 : ((s[k].toNat : Int) == 9) = true := by rw [hv]; rfl
     clear hv
     go_wp2_with fail
     go_roundw
     case rel => exact ⟨k + 1, by omega, by go_num, trivial, HI2⟩
     case measure => simp [intOf]; omega
    ·have v0 : ((s[k].toNat : Int) == 9) = false := by rw [hv]; rfl
     have v1 : ((s[k].toNat : Int) == 10) = true := by rw [hv]; rfl
     clear hv
     go_wp2_with fail
     go_roundw
     case rel => exact ⟨k + 1, by omega, by go_num, trivial, HI2⟩
     case measure => simp [intOf]; omega
    ·have v0 : ((s[k].toNat : Int) == 9) = false := by rw [hv]; rfl
     have v1 : ((s[k].toNat : Int) == 10) = false := by rw [hv]; rfl
     have v2 : ((s[k].toNat : Int) == 13) = true := by rw [hv]; rfl
     clear hv
     go_wp2_with fail
     go_roundw
     case rel => exact ⟨k + 1, by omega, by go_num, trivial, HI2⟩
     case measure => simp [intOf]; omega
    ·have v0 : ((s[k].toNat : Int) == 9) = false := by rw [hv]; rfl
     have v1 : ((s[k].toNat : Int) == 10) = false := by rw [hv]; rfl
     have v2 : ((s[k].toNat : Int) == 13) = false := by rw [hv]; rfl
     have v3 : ((s[k].toNat : Int) == 32) = true := by rw [hv]; rfl
     clear hv
     go_wp2_with fail
     go_roundw
     case rel => exact ⟨k + 1, by omega, by go_num, trivial, HI2⟩
     case measure => simp [intOf]; omega
   | false =>
    have HI2 : Hid (spN blB s i = k) := HI.out.symm.trans (HS.out k hb)
    rw [hc] at hb
    unfold blB at hb
    simp only [Bool.or_eq_false_iff] at hb
    obtain ⟨⟨⟨v1, v2⟩, v3⟩, v4⟩ := hb
    clear HN HS HI hc
    go_wp2_with fail
    rw [Exit.noGoto_ret]
    go_ret
    exact ⟨by rw [HI2.out]; rfl, rfl⟩
  ·have z1 : ¬ (k : Int) < (s.size : Int) := by omega
   have HI2 : Hid (spN blB s i = k) := HI.out.symm.trans (HS.out k (by rw [zau h1]; rfl))
   clear HN HS HI
   go_wp2_with fail
   first | go_ret | (rw [Exit.noGoto_ret]; go_ret)
   exact ⟨by rw [HI2.out]; rfl, rfl⟩
end Go.Proofs.YtnpifgcgjgddoaaGreatDoor
namespace Go.Proofs.YtnpifgcgjgddoaaGreatDoor.N
open Go.RowKit
theorem zaD {W W' : World} {B e s n : Nat} {v : Value} {xs : List Value} (h : W.ownsRow B e s v n xs) (hk : ∀ k, v.ownBlock = some k -> W'.heap[k]? = W.heap[k]?) : W'.ownsRow B e s v n xs := by
 refine ⟨h.1, ?_⟩
 rcases h.2 with hn | ⟨g, cap, cur, rfl, hB, hg, rest⟩
 ·exact .inl hn
 ·exact .inr ⟨g, cap, cur, rfl, hB, (hk g rfl).trans hg, rest⟩
theorem ze8 {W : World} {B e s n : Nat} {v : Value} {xs : List Value} (h : W.ownsRow B e s v n xs) {k : Nat} (hk : v.ownBlock = some k) : ∃ cur, W.heap[k]? = some (.cells cur e (0, 0)) := by
 rcases h.2 with ⟨rfl, _⟩ | ⟨g, cap, cur, rfl, _, hg, _⟩
 ·cases hk
 ·cases hk; exact ⟨cur, hg⟩
theorem zdf {W : World} {B e s n B2 e2 s2 n2 : Nat} {v v2 : Value} {xs xs2 : List Value} (h : W.ownsRow B e s v n xs) (h2 : W.ownsRow B2 e2 s2 v2 n2 xs2) (hne : e ≠ e2) {k : Nat} (hk : v.ownBlock = some k) : v2.ownBlock ≠ some k := fun q => by
 obtain ⟨c1, h1⟩ := ze8 h hk
 obtain ⟨c2, h3⟩ := ze8 h2 q
 rw [h1] at h3
 injection h3 with h4
 injection h4 with _ h5
 exact hne h5
structure RX (W : World) (b : Nat) (tv : Value) (i d : Nat) (v : Value) : Prop where
 heap : W.heap[b]? = some (.cells #[tv, .int .i64 i, .int .i64 d, v] 117 (0, 0))
theorem RX.lt {W : World} {b : Nat} {tv v : Value} {i d : Nat} (h : RX W b tv i d v) : b < W.heap.size := (Array.getElem?_eq_some_iff.1 h.heap).1
theorem RX.same {W W' : World} {b : Nat} {tv v : Value} {i d : Nat} (h : RX W b tv i d v) (hb : W'.heap[b]? = W.heap[b]?) : RX W' b tv i d v := ⟨hb.trans h.heap⟩
theorem RX.cl {W : World} {b : Nat} {tv v : Value} {i d : Nat} (h : RX W b tv i d v) : W.cell? ⟨b, 0, none⟩ = some tv /\ W.cell? ⟨b, 1, none⟩ = some (.int .i64 i) /\ W.cell? ⟨b, 2, none⟩ = some (.int .i64 d) /\ W.cell? ⟨b, 3, none⟩ = some v := by
 have key : ∀ (j : Nat) u, (#[tv, .int .i64 i, .int .i64 d, v] : Array Value)[j]? = some u -> W.cell? ⟨b, j, none⟩ = some u := fun j u hu => by
  rw [cell_of_row W b j _ 117 (0, 0) h.heap]; exact hu
 exact ⟨key 0 _ rfl, key 1 _ rfl, key 2 _ rfl, key 3 _ rfl⟩
theorem RX.fz {W : World} {b : Nat} {tv v : Value} {i d : Nat} (h : RX W b tv i d v) (j : Nat) : W.frozen? ⟨b, j, none⟩ = false := frozen_of_row W b j _ 117 h.heap
theorem RX.s1 {W : World} {b : Nat} {tv v : Value} {i d : Nat} (h : RX W b tv i d v) (i2 : Nat) : RX (W.setCell ⟨b, 1, none⟩ (.int .i64 i2)) b tv i2 d v := ⟨by
 rw [heap_setCell_same _ b 1 _ 117 (.int .i64 i2) h.heap]; simp⟩
theorem RX.s2 {W : World} {b : Nat} {tv v : Value} {i d : Nat} (h : RX W b tv i d v) (d2 : Nat) : RX (W.setCell ⟨b, 2, none⟩ (.int .i64 d2)) b tv i d2 v := ⟨by
 rw [heap_setCell_same _ b 2 _ 117 (.int .i64 d2) h.heap]; simp⟩
theorem RX.s3 {W : World} {b : Nat} {tv v : Value} {i d : Nat} (h : RX W b tv i d v) (v2 : Value) : RX (W.setCell ⟨b, 3, none⟩ v2) b tv i d v2 := ⟨by
 rw [heap_setCell_same _ b 3 _ 117 v2 h.heap]; simp⟩
theorem RX.ne {W : World} {b B e s n : Nat} {tv v u : Value} {i d : Nat} {xs : List Value} (h : RX W b tv i d v) (ho : W.ownsRow B e s u n xs) (he : e ≠ 117) {k : Nat} (hk : u.ownBlock = some k) : k ≠ b := fun q => by
 subst q
 obtain ⟨c, hc⟩ := ze8 ho hk
 rw [h.heap] at hc
 injection hc with h4
 injection h4 with _ h5
 exact he h5.symm
structure Fr (W W' : World) (b : Nat) (v v' : Value) : Prop where
 size : W.heap.size <= W'.heap.size
 block : ∀ k, k < W.heap.size -> k ≠ b -> v.ownBlock ≠ some k -> W'.heap[k]? = W.heap[k]?
 own : ∀ k, v'.ownBlock = some k -> v.ownBlock = some k ∨ W.heap.size <= k
theorem Fr.refl (W : World) (b : Nat) (v : Value) : Fr W W b v v := ⟨Nat.le_refl _, fun _ _ _ _ => rfl, fun _ h => .inl h⟩
theorem Fr.trans {W W1 W2 : World} {b : Nat} {v v1 v2 : Value} (h : Fr W W1 b v v1) (h2 : Fr W1 W2 b v1 v2) : Fr W W2 b v v2 :=
 ⟨Nat.le_trans h.size h2.size, fun k hk hb hv => (h2.block k (Nat.lt_of_lt_of_le hk h.size) hb (fun q => by
  rcases h.own k q with r | r
  ·exact hv r
  ·omega)).trans (h.block k hk hb hv), fun k hk => by
  rcases h2.own k hk with r | r
  ·exact h.own k r
  ·exact .inr (Nat.le_trans h.size r)⟩
theorem Fr.below {W W' : World} (b : Nat) (v : Value) (h : Below W.heap.size W W') : Fr W W' b v v := ⟨h.size, fun k hk _ _ => h.block k hk, fun _ h => .inl h⟩
theorem Fr.set (W : World) (b j : Nat) (u v : Value) : Fr W (W.setCell ⟨b, j, none⟩ u) b v v := ⟨by simp [World.setCell], fun k _ hb _ => Below.heap_setCell _ _ _ _ hb, fun _ h => .inl h⟩
theorem Fr.grow {W W' : World} (b : Nat) {v : Value} {g n c : Nat} (h : W.grownBy W' v.ownBlock) (hat : v.ownBlock = some g ∨ g = W.heap.size) : Fr W W' b v (.slice (some ⟨g, 0, none⟩) n c) :=
 ⟨h.size, fun k hk _ hv => h.block k hk (fun e => hv e.symm), fun k hk => by
  have e : g = k := Option.some.inj hk
  rcases hat with q | q
  ·exact .inl (by rw [q, e])
  ·exact .inr (by omega)⟩
def enT (z : Nat) : Tk := ⟨0, 0, z, 0, ⟨#[]⟩, 0, 0, 0, 0⟩
def zhY (E : PE) (z : Nat) : List Tk := E.l ++ [enT z]
def plA (E : PE) (z i : Nat) : Int := if i < E.l.length then (tkA E i).fr else z
theorem zmw (E : PE) (z : Nat) : (zhY E z).length = E.l.length + 1 := by unfold zhY; simp
theorem zam (E : PE) (z : Nat) {i : Nat} (hi : i <= E.l.length) : ∃ t, (zhY E z)[i]? = some t /\ t.kd = kdA E i /\ t.fr = plA E z i /\ (i < E.l.length -> t = tkA E i) := by
 by_cases h : i < E.l.length
 ·refine ⟨E.l[i], ?_, ?_, ?_, fun _ => ?_⟩
  ·unfold zhY; rw [List.getElem?_append_left h, List.getElem?_eq_getElem h]
  ·unfold kdA; rw [List.getElem?_eq_getElem h]
  ·unfold plA tkA; rw [if_pos h, List.getElem?_eq_getElem h]; rfl
  ·unfold tkA; rw [List.getElem?_eq_getElem h]; rfl
 ·obtain rfl : i = E.l.length := by omega
  refine ⟨enT z, ?_, ?_, ?_, fun q => absurd q h⟩
  ·unfold zhY; rw [List.getElem?_append_right (Nat.le_refl _), Nat.sub_self]; rfl
  ·rw [zhX]; rfl
  ·unfold plA; rw [if_neg h]; rfl
structure RS (E : PE) (z : Nat) (w0 W : World) (b : Nat) (tv : Value) (i d : Nat) (v : Value) (L : List Nd) : Prop where
 bl : Below w0.heap.size w0 W
 lo : w0.heap.size <= b
 x : RX W b tv i d v
 t : W.ownsRow w0.heap.size 115 9 tv (zhY E z).length (tkc (zhY E z))
 o : W.ownsRow w0.heap.size 51 7 v L.length (T.ndc L)
 hi : i <= E.l.length
 hd : d <= 240
section
variable {E : PE} {z : Nat} {w0 W : World} {b : Nat} {tv : Value} {i d : Nat} {v : Value} {L : List Nd}
theorem RS.later (h : RS E z w0 W b tv i d v L) {W' : World} (hb : Below W.heap.size W W') : RS E z w0 W' b tv i d v L :=
 ⟨h.bl.trans (hb.mono h.bl.size), h.lo, h.x.same (hb.block b h.x.lt), zoY h.t hb, zoY h.o hb, h.hi, h.hd⟩
theorem RS.s1 (h : RS E z w0 W b tv i d v L) {i2 : Nat} (hi : i2 <= E.l.length) : RS E z w0 (W.setCell ⟨b, 1, none⟩ (.int .i64 i2)) b tv i2 d v L :=
 ⟨h.bl.setCell (p := ⟨b, 1, none⟩) h.lo _, h.lo, h.x.s1 i2, zaD h.t fun k hk => Below.heap_setCell _ _ _ _ (h.x.ne h.t (by decide) hk), zaD h.o fun k hk => Below.heap_setCell _ _ _ _ (h.x.ne h.o (by decide) hk), hi, h.hd⟩
theorem RS.s2 (h : RS E z w0 W b tv i d v L) {d2 : Nat} (hd : d2 <= 240) : RS E z w0 (W.setCell ⟨b, 2, none⟩ (.int .i64 d2)) b tv i d2 v L :=
 ⟨h.bl.setCell (p := ⟨b, 2, none⟩) h.lo _, h.lo, h.x.s2 d2, zaD h.t fun k hk => Below.heap_setCell _ _ _ _ (h.x.ne h.t (by decide) hk), zaD h.o fun k hk => Below.heap_setCell _ _ _ _ (h.x.ne h.o (by decide) hk), h.hi, hd⟩
theorem RS.s3 (h : RS E z w0 W b tv i d v L) {v2 : Value} {L2 : List Nd} (ho : W.ownsRow w0.heap.size 51 7 v2 L2.length (T.ndc L2)) : RS E z w0 (W.setCell ⟨b, 3, none⟩ v2) b tv i d v2 L2 :=
 ⟨h.bl.setCell (p := ⟨b, 3, none⟩) h.lo _, h.lo, h.x.s3 v2, zaD h.t fun k hk => Below.heap_setCell _ _ _ _ (h.x.ne h.t (by decide) hk), zaD ho fun k hk => Below.heap_setCell _ _ _ _ (h.x.ne ho (by decide) hk), h.hi, h.hd⟩
theorem RS.grow (h : RS E z w0 W b tv i d v L) {W' : World} {v2 : Value} {L2 : List Nd} (hg : W.grownBy W' v.ownBlock) (ho : W'.ownsRow w0.heap.size 51 7 v2 L2.length (T.ndc L2)) : RS E z w0 (W'.setCell ⟨b, 3, none⟩ v2) b tv i d v2 L2 := by
 have hx : RX W' b tv i d v := h.x.same (hg.block b h.x.lt (fun e => h.x.ne h.o (by decide) e.symm rfl))
 have ht : W'.ownsRow w0.heap.size 115 9 tv (zhY E z).length (tkc (zhY E z)) := zaD h.t fun k hk => hg.block k (h.t.lt k hk).2 (fun e => zdf h.t h.o (by decide) hk e.symm)
 have hbl : Below w0.heap.size w0 W' := h.bl.grown hg h.bl.size (fun k e => (h.o.lt k e).1)
 exact ⟨hbl.setCell (p := ⟨b, 3, none⟩) h.lo _, h.lo, hx.s3 v2, zaD ht fun k hk => Below.heap_setCell _ _ _ _ (hx.ne ht (by decide) hk), zaD ho fun k hk => Below.heap_setCell _ _ _ _ (hx.ne ho (by decide) hk), h.hi, h.hd⟩
theorem RS.tk (h : RS E z w0 W b tv i d v L) : ∃ g c, tv = .slice (some ⟨g, 0, none⟩) (E.l.length + 1) c /\ ∀ (k : Nat) t, (zhY E z)[k]? = some t -> TR W g (k * 9) t := by
 obtain ⟨A, c, e, hr⟩ := zo1 h.t rfl
 obtain ⟨g, rfl, _, hc⟩ := hr.rd (by unfold zhY; simp)
 exact ⟨g, c, by rw [e, zmw], hc⟩
end
abbrev tkZ : Obj := .cells #[.int .i64 0, .int .i64 0, .int .i64 0, .int .i64 0, .string ⟨#[]⟩, .int .u64 0, .int .u64 0, .int .u64 0, .int .u64 0] 115
theorem zjz (a b c d e0 e1 e2 e3 : Value) (k : Int) (W : World) : (Instr.field 115 (.agg #[.int .i64 k, a, b, c, d, e0, e1, e2, e3]) 0).run Tryz.prog W = .ok (.int .i64 k) W := by simp [Instr.field, run_underlying Tryz.underlying115, asAgg, go_sem, Tryz.isAgg3, Tryz.sizeOf3]
theorem fld2 (a b c d e0 e1 e2 e3 : Value) (k : Int) (W : World) : (Instr.field 115 (.agg #[a, b, .int .i64 k, c, d, e0, e1, e2, e3]) 2).run Tryz.prog W = .ok (.int .i64 k) W := by simp [Instr.field, run_underlying Tryz.underlying115, asAgg, go_sem, Tryz.isAgg3, Tryz.sizeOf3]
theorem zo2 {fn : Func} {R : Ending -> World -> Prop} {a : Act} {W : World} {b : Nat} {t : Tk} (hF : fn.results = #[.cell 2 115]) (hd : a.defers = []) (h2 : a.tmps.getD 2 undef = .pointer (some ⟨b, 0, none⟩)) (hT : TX W b t) (hR : R (.returned (tkG t)) W) : bodyPost Tryz.prog fn R .ret a W := by
 obtain ⟨c0, c1, c2, c3, c4, c5, c6, c7, c8⟩ := hT.cells
 refine bodyPost_ret (v := tkG t) ?_ hd hR
 simp only [Array.getD_eq_getD_getElem?] at h2
 simp [results, hF, go_sem, h2, c0, c1, c2, c3, c4, c5, c6, c7, c8]
theorem zaq {E : PE} {z : Nat} {w0 W : World} {b : Nat} {tv : Value} {i d : Nat} {v : Value} {L : List Nd} (h : RS E z w0 W b tv i d v L) (t : Tk) (ht : (zhY E z)[i]? = some t) :
  Calls Tryz.prog 62 #[.pointer (some ⟨b, 0, none⟩)] W fun e W' => e = .returned (.agg #[.int .i64 t.kd, .int .i64 t.nn, .int .i64 t.fr, .int .i64 t.en, .string t.tx, .int .u64 t.s0, .int .u64 t.s1, .int .u64 t.s2, .int .u64 t.s3]) /\ Below W.heap.size W W' := by
 have HX : Hid (RS E z w0 (W.alloc tkZ) b tv i d v L) := h.later (zaa _ _)
 have HT : Hid (TX (W.alloc tkZ) W.heap.size tk0) := TX.new W tk0
 have HB : Hid (Below W.heap.size W (W.alloc tkZ)) := zaa _ _
 have HG : Hid ((zhY E z)[i]? = some t) := ht
 have hi := h.hi
 have z0 : (0 : Int) <= (i : Int) := by omega
 have z1 : (i : Int) < ((E.l.length + 1 : Nat) : Int) := by omega
 clear h ht
 go_enter Tryz.func62, Tryz.ntmps62
 go_wp2_with fail
 generalize W.alloc tkZ = w1 at *
 obtain ⟨g, c, rfl, hc⟩ := HX.out.tk
 obtain ⟨a0, a1, a2, a3, a4, a5, a6, a7, a8⟩ := hc i t HG.out
 obtain ⟨k0, k1, k2, k3⟩ := HX.out.x.cl
 obtain ⟨f0, f1', f2', f3, f4, f5, f6, f7, f8⟩ := HT.out.fz
 obtain ⟨y0, y1, y2, y3, y4, y5, y6, y7, y8⟩ := HT.out.cells
 clear hc HX HG
 generalize E.l.length + 1 = n at *
 go_region
 go_wp2_with fail
 exact zo2 rfl rfl rfl ((zn5 HT.out t).below (Below.refl _ _).drew) ⟨rfl, (zgb HB.out (Nat.le_refl _) t).drew⟩
theorem zac {P : Program} {fn : Func} {R : Ending -> World -> Prop} {ch : List PanicEntry} {a : Act} {w : World} (hd : a.defers = []) (h : R (.panicked ch) w) : bodyPost P fn R (.panic ch) a w := ⟨hd, h⟩
abbrev pnc (a c : Int) : Ending := .panicked [{ v := .iface 39 (.agg #[.int .i64 a, .int .i64 c]), recovered := false }]
theorem ze9 {E : PE} {z : Nat} {w0 W : World} {b : Nat} {tv : Value} {i d : Nat} {v : Value} {L : List Nd} (h : RS E z w0 W b tv i d v L) (hlt : i < E.l.length) (hz : E.l.length <= 1000000) :
  Calls Tryz.prog 65 #[.pointer (some ⟨b, 0, none⟩)] W fun e W' => e = .returned (.int .i64 (kdA E (i + 1))) /\ Below W.heap.size W W' := by
 obtain ⟨t, ht, hk, _, _⟩ := zam E z (i := i + 1) (by omega)
 have HK : Hid (t.kd = kdA E (i + 1)) := hk
 obtain ⟨j, hj⟩ : ∃ j, j = i + 1 := ⟨_, rfl⟩
 rw [<- hj] at ht HK ⊢
 have u1 : IntKind.i64.wrap ((i : Int) + 1) = (j : Int) := by rw [IntKind.wrap_i64]; omega
 have z0 : (0 : Int) <= (j : Int) := by omega
 have z1 : (j : Int) < ((E.l.length + 1 : Nat) : Int) := by omega
 obtain ⟨g, c, rfl, hc⟩ := h.tk
 obtain ⟨a0, a1, a2, a3, a4, a5, a6, a7, a8⟩ := hc j t ht
 obtain ⟨k0, k1, k2, k3⟩ := h.x.cl
 clear hc h ht hk hj
 generalize E.l.length + 1 = n at *
 go_enter Tryz.func65, Tryz.ntmps65
 go_wp2_with fail
 go_quiet (fail)
 go_wp2_with fail
 go_ret
 exact ⟨by rw [<- HK.out]; rfl, below_drewN (Below.refl _ _) _⟩
theorem zcQ (a c : Int) (W : World) : Calls Tryz.prog 60 #[.int .i64 a, .int .i64 c] W fun e W' => e = pnc a c /\ W' = W := by
 go_enter Tryz.func60, Tryz.ntmps60
 go_wp2_with fail
 exact ⟨rfl, rfl, rfl⟩
theorem zbx {E : PE} {z : Nat} {w0 W : World} {b : Nat} {tv : Value} {i d : Nat} {v : Value} {L : List Nd} (h : RS E z w0 W b tv i d v L) (c : Int) :
  Calls Tryz.prog 64 #[.pointer (some ⟨b, 0, none⟩), .int .i64 c] W fun e W' => e = pnc (plA E z i) c /\ Below W.heap.size W W' := by
 obtain ⟨t, ht, _, hp, _⟩ := zam E z h.hi
 have HP : Hid (t.fr = plA E z i) := hp
 have HH : Hid (∀ _ : Unit, Calls Tryz.prog 62 #[.pointer (some ⟨b, 0, none⟩)] W fun e W' => e = .returned (.agg #[.int .i64 t.kd, .int .i64 t.nn, .int .i64 t.fr, .int .i64 t.en, .string t.tx, .int .u64 t.s0, .int .u64 t.s1, .int .u64 t.s2, .int .u64 t.s3]) /\ Below W.heap.size W W') := fun _ => zaq h t ht
 have HU : Hid (∀ a W, Calls Tryz.prog 60 #[.int .i64 a, .int .i64 c] W fun e W' => e = pnc a c /\ W' = W) := fun a W => zcQ a c W
 clear h ht hp
 have fl2 := fld2
 go_enter Tryz.func64, Tryz.ntmps64
 go_wp2_with fail
 refine (HH.out ()).mono ?_
 rintro e w1 ⟨rfl, hb⟩
 have HB := hO hb
 clear hb HH
 go_wp2_with fail
 refine (HU.out _ _).mono ?_
 rintro e w2 ⟨rfl, rfl⟩
 exact zac rfl ⟨by rw [<- HP.out], HB.out⟩
end Go.Proofs.YtnpifgcgjgddoaaGreatDoor.N
namespace Go.Proofs.YtnpifgcgjgddoaaGreatDoor.T
abbrev Pt := Nat × Nat × Nat
def zcR (L : List Nd) (k : Nat) : Int := match L[k]? with
 | some n => n.op
 | none => 0
def arN (op : Int) : Nat := (ar op).toNat
def mk (L : List Nd) (k : Nat) (op : Int) (st : List Pt) : Pt :=
 if arN op = 0 then (k, k, 1) else if arN op = 1 then (match st with
  | x :: _ => (x.1, k, max 1 (x.2.2 + 1))
  | [] => (k, k, 1)) else (match st with
  | y :: x :: _ => (x.1, k, max (max 1 (if zcR L x.2.1 = op then x.2.2 else x.2.2 + 1)) (y.2.2 + 1))
  | _ => (k, k, 1))
def run (L : List Nd) : Nat -> List Pt
 | 0 => []
 | k + 1 => mk L k (zcR L k) (run L k) :: (run L k).drop (arN (zcR L k))
def pt (L : List Nd) (k : Nat) : Pt := mk L k (zcR L k) (run L k)
theorem zco (L : List Nd) (k : Nat) : run L (k + 1) = pt L k :: (run L k).drop (arN (zcR L k)) := rfl
def er (L : List Nd) (k : Nat) : Int := match L[k]? with
 | none => 0
 | some n => if alE n ≠ 0 then alE n else if (run L k).length < arN n.op then 42 else if 60 < (pt L k).2.2 then 4 else 0
def zjA (L : List Nd) : Nat -> Nat -> Nat × Int
 | 0, _ => if (run L L.length).length = 1 then (0, 0) else (L.length, 42)
 | m + 1, k => if er L k ≠ 0 then (k, er L k) else zjA L m (k + 1)
def ck (L : List Nd) : Nat × Int := if 2048 < L.length then (0, 2) else zjA L L.length 0
theorem zgc (L : List Nd) : ∀ (k m : Nat), k + m = L.length -> (∀ j, j < k -> er L j = 0) -> zjA L L.length 0 = zjA L m k := by
 intro k
 induction k with
 | zero => intro m hm _; rw [<- hm, Nat.zero_add]
 | succ k ih =>
  intro m hm h
  rw [ih (m + 1) (by omega) (fun j hj => h j (by omega)), zjA, if_neg (by rw [h k (by omega)]; simp)]
theorem zjS {L : List Nd} {k : Nat} (hl : ¬ 2048 < L.length) (hk : k < L.length) (h : ∀ j, j < k -> er L j = 0) (he : er L k ≠ 0) : ck L = (k, er L k) := by
 rw [ck, if_neg hl, zgc L k (L.length - k) (by omega) h, show L.length - k = (L.length - k - 1) + 1 from by omega, zjA, if_pos he]
theorem zn7 {L : List Nd} (hl : ¬ 2048 < L.length) (h : ∀ j, j < L.length -> er L j = 0) : ck L = if (run L L.length).length = 1 then (0, 0) else (L.length, 42) := by
 rw [ck, if_neg hl, zgc L L.length 0 (by omega) h, zjA]
theorem zo3 {L : List Nd} (hl : 2048 < L.length) : ck L = (0, 2) := by rw [ck, if_pos hl]
structure Rt (L : List Nd) : Prop where
 len : ¬ 2048 < L.length
 each : ∀ j, j < L.length -> er L j = 0
 one : (run L L.length).length = 1
theorem Rt.ck {L : List Nd} (h : Rt L) : ck L = (0, 0) := by rw [zn7 h.len h.each, if_pos h.one]
theorem zo4 (L : List Nd) : ∀ (m k : Nat), k + m = L.length -> (zjA L m k).2 = 0 -> (∀ j, k <= j -> j < L.length -> er L j = 0) /\ (run L L.length).length = 1 := by
 intro m
 induction m with
 | zero =>
  intro k hk h
  refine ⟨fun j h1 h2 => by omega, ?_⟩
  rw [zjA] at h
  split at h
  ·assumption
  ·cases h
 | succ m ih =>
  intro k hk h
  rw [zjA] at h
  split at h
  ·next he => exact absurd h he
  ·next he =>
   obtain ⟨h1, h2⟩ := ih (k + 1) (by omega) h
   refine ⟨fun j a b => ?_, h2⟩
   by_cases hj : j = k
   ·subst hj
    exact Classical.byContradiction he
   ·exact h1 j (by omega) b
theorem zjT {L : List Nd} (h : (ck L).2 = 0) : Rt L := by
 unfold ck at h
 split at h
 ·cases h
 ·next hl =>
  obtain ⟨h1, h2⟩ := zo4 L L.length 0 (by omega) h
  exact ⟨hl, fun j hj => h1 j (by omega) hj, h2⟩
theorem zmx {L : List Nd} {k : Nat} {n : Nd} (h : L[k]? = some n) : er L k = if alE n ≠ 0 then alE n else if (run L k).length < arN n.op then 42 else if 60 < (pt L k).2.2 then 4 else 0 := by
 unfold er; rw [h]
theorem zeo {L : List Nd} {k : Nat} {n : Nd} (h : L[k]? = some n) : zcR L k = n.op := by unfold zcR; rw [h]
theorem alE_ar {n : Nd} (h : alE n = 0) : 0 <= ar n.op := by
 unfold alE at h
 split at h
 ·cases h
 ·omega
def Chn (L : List Nd) : Nat -> List Pt -> Prop
 | at', [] => at' = 0
 | at', x :: r => x.2.1 + 1 = at' /\ x = pt L x.2.1 /\ x.1 <= x.2.1 /\ Chn L x.1 r
theorem zfr (L : List Nd) (k : Nat) (op : Int) (st : List Pt) : (mk L k op st).2.1 = k := by
 unfold mk
 split
 ·rfl
 ·split
  ·split <;> rfl
  ·split <;> rfl
theorem zb5 (op : Int) : arN op <= 2 := by unfold arN; have := ar_hi op; omega
theorem zjU (L : List Nd) : ∀ k, k <= L.length -> (∀ j, j < k -> er L j = 0) -> Chn L k (run L k) := by
 intro k
 induction k with
 | zero => intro _ _; exact rfl
 | succ k ih =>
  intro hk h
  have c := ih (by omega) (fun j hj => h j (by omega))
  have hn : L[k]? = some L[k] := List.getElem?_eq_getElem (by omega)
  have he := h k (by omega)
  rw [zmx hn] at he
  have ha : alE L[k] = 0 := by
   apply Classical.byContradiction
   intro q
   rw [if_pos q] at he
   exact q he
  rw [if_neg (by simp [ha])] at he
  have hl : ¬ (run L k).length < arN L[k].op := by
   intro q
   rw [if_pos q] at he
   cases he
  have hop := zeo hn
  rw [zco]
  have hlast : (pt L k).2.1 = k := zfr _ _ _ _
  refine ⟨by rw [hlast], by rw [hlast], ?_, ?_⟩
  ·rw [hlast]
   unfold pt mk
   rw [hop]
   split
   ·exact Nat.le_refl _
   ·split
    ·cases hr : run L k with
     | nil => exact Nat.le_refl _
     | cons x r => rw [hr] at c; have := c.1; have := c.2.2.1; show x.1 <= k; omega
    ·cases hr : run L k with
     | nil => exact Nat.le_refl _
     | cons y r =>
      rw [hr] at c
      cases hr2 : r with
      | nil => exact Nat.le_refl _
      | cons x r2 =>
       rw [hr2] at c
       have h1 := c.1; have h2 := c.2.2.1; have h3 := c.2.2.2.1; have h4 := c.2.2.2.2.2.1
       show x.1 <= k
       omega
  ·have h2 := zb5 L[k].op
   unfold pt mk
   rw [hop]
   by_cases a0 : arN L[k].op = 0
   ·rw [if_pos a0, a0]
    exact c
   ·rw [if_neg a0]
    by_cases a1 : arN L[k].op = 1
    ·rw [if_pos a1, a1]
     rw [a1] at hl
     cases hr : run L k with
     | nil => rw [hr] at hl; exact absurd (by simp) hl
     | cons x r => rw [hr] at c; exact c.2.2.2
    ·rw [if_neg a1, show arN L[k].op = 2 from by omega]
     rw [show arN L[k].op = 2 from by omega] at hl
     cases hr : run L k with
     | nil => rw [hr] at hl; exact absurd (by simp) hl
     | cons y r =>
      rw [hr] at c hl
      cases hr2 : r with
      | nil => rw [hr2] at hl; exact absurd (by simp) hl
      | cons x r2 => rw [hr2] at c; exact c.2.2.2.2.2.2
theorem zo5 (L : List Nd) : ∀ (st : List Pt) (k : Nat), Chn L k st -> ∀ x ∈ st, x.2.1 < k /\ x.1 <= x.2.1 /\ x = pt L x.2.1 := by
 intro st
 induction st with
 | nil => intro k _ x hx; cases hx
 | cons y r ih =>
  intro k h x hx
  obtain ⟨h1, h2, h3, h4⟩ := h
  rcases List.mem_cons.1 hx with rfl | hx
  ·exact ⟨by omega, h3, h2⟩
  ·obtain ⟨a, b, c⟩ := ih y.1 h4 x hx
   exact ⟨by omega, b, c⟩
structure ErOk (L : List Nd) (k : Nat) (n : Nd) : Prop where
 al : alE n = 0
 ar : arN n.op <= (run L k).length
 ht : (pt L k).2.2 <= 60
theorem zeM {L : List Nd} {k : Nat} {n : Nd} (hn : L[k]? = some n) (h : er L k = 0) : ErOk L k n := by
 rw [zmx hn] at h
 by_cases h1 : alE n ≠ 0
 ·rw [if_pos h1] at h; exact absurd h h1
 rw [if_neg h1] at h
 by_cases h2 : (run L k).length < arN n.op
 ·rw [if_pos h2] at h; cases h
 rw [if_neg h2] at h
 by_cases h3 : 60 < (pt L k).2.2
 ·rw [if_pos h3] at h; cases h
 exact ⟨Classical.byContradiction h1, by omega, by omega⟩
theorem zjV {L : List Nd} {k : Nat} (hk : k <= L.length) (h : ∀ j, j < k -> er L j = 0) : ∀ x ∈ run L k, x.1 <= x.2.1 /\ x.2.1 < k /\ x.2.2 <= 60 /\ x = pt L x.2.1 := by
 intro x hx
 obtain ⟨a, b, c⟩ := zo5 L _ k (zjU L k hk h) x hx
 have hn : L[x.2.1]? = some L[x.2.1] := List.getElem?_eq_getElem (by omega)
 have := (zeM hn (h _ a)).ht
 rw [<- c] at this
 exact ⟨b, a, this, c⟩
theorem zjW (L : List Nd) (k : Nat) : (run L k).length <= k := by
 induction k with
 | zero => exact Nat.le_refl _
 | succ k ih => rw [zco, List.length_cons, List.length_drop]; omega
theorem zn8 {n : Nd} (h : alE n = 0) : ((arN n.op : Nat) : Int) = ar n.op := by
 have := alE_ar h
 unfold arN
 omega
theorem zhZ {α : Type} (st : List α) (a : Nat) (h : a <= st.length) : st.reverse.drop (st.length - a) = (st.take a).reverse := by
 rw [List.drop_reverse]
 congr 2
 omega
theorem zh0 {α : Type} (st : List α) (a : Nat) (h : a <= st.length) : st.reverse.take (st.length - a) = (st.drop a).reverse := by
 rw [List.take_reverse]
 congr 2
 omega
open Go.RowKit
theorem zep (c : Int) (w : World) : Calls Tryz.prog 147 #[.int .u8 c] w fun e w' => e = .returned (.bool (dgB c)) /\ w' = w := by
 by_cases h : 48 <= c
 ·have HE : Hid (dgB c = decide (c <= 57)) := (by show dgB c = _; unfold dgB; rw [decide_eq_true h]; rfl)
  go_enter Tryz.func147, Tryz.ntmps147
  go_wp2
  go_ret
  exact ⟨by rw [HE.out]; rfl, rfl⟩
 ·have HE : Hid (dgB c = false) := (by show dgB c = _; unfold dgB; rw [decide_eq_false h]; rfl)
  go_enter Tryz.func147, Tryz.ntmps147
  go_wp2
  go_ret
  exact ⟨by rw [HE.out]; rfl, rfl⟩
theorem zgd (c : Int) (w : World) : Calls Tryz.prog 148 #[.int .u8 c] w fun e w' => e = .returned (.bool (ltB c)) /\ w' = w := by
 have HE : Hid (ltB c = ((decide (97 <= c) && decide (c <= 122)) || (decide (65 <= c) && decide (c <= 90)))) := rfl
 by_cases h : 97 <= c <;> by_cases h1 : c <= 122 <;> by_cases h2 : 65 <= c <;> by_cases h3 : c <= 90
 all_goals
  go_enter Tryz.func148, Tryz.ntmps148
  go_wp2
  go_ret
  refine ⟨zaU ?_, rfl⟩
  rw [HE.out]
  simp <;> omega
theorem zeq (op : Int) (w : World) : Calls Tryz.prog 68 #[.int .i64 op] w fun e w' => e = .returned (.int .i64 (ar op)) /\ w' = w := by
 by_cases h1 : op < 1
 ·have HE : Hid (ar op = -1) := (by show ar op = _; unfold ar; rw [if_pos (.inl h1)])
  go_enter Tryz.func68, Tryz.ntmps68
  go_wp2
  go_ret
  exact ⟨by rw [HE.out]; rfl, rfl⟩
 by_cases h2 : 23 < op
 ·have HE : Hid (ar op = -1) := (by show ar op = _; unfold ar; rw [if_pos (.inr h2)])
  go_enter Tryz.func68, Tryz.ntmps68
  go_wp2
  go_ret
  exact ⟨by rw [HE.out]; rfl, rfl⟩
 by_cases h3 : op <= 6
 ·have HE : Hid (ar op = 0) := (by show ar op = _; unfold ar; rw [if_neg (by omega), if_pos (.inl h3)])
  go_enter Tryz.func68, Tryz.ntmps68
  go_wp2
  go_ret
  exact ⟨by rw [HE.out]; rfl, rfl⟩
 by_cases h4 : op = 17
 ·have HE : Hid (ar op = 0) := (by show ar op = _; unfold ar; rw [if_neg (by omega), if_pos (.inr h4)])
  have e4 : (op == 17) = true := beq_iff_eq.2 h4
  clear h4
  go_enter Tryz.func68, Tryz.ntmps68
  go_wp2
  go_ret
  exact ⟨by rw [HE.out]; rfl, rfl⟩
 have e4 : (op == 17) = false := bF h4
 by_cases h5 : op = 7
 ·have HE : Hid (ar op = 2) := (by show ar op = _; unfold ar; rw [if_neg (by omega), if_neg (by omega), if_pos (.inl h5)])
  have e5 : (op == 7) = true := beq_iff_eq.2 h5
  clear h5 h4
  go_enter Tryz.func68, Tryz.ntmps68
  go_wp2
  go_ret
  exact ⟨by rw [HE.out]; rfl, rfl⟩
 have e5 : (op == 7) = false := bF h5
 by_cases h6 : op = 8
 ·have HE : Hid (ar op = 2) := (by show ar op = _; unfold ar; rw [if_neg (by omega), if_neg (by omega), if_pos (.inr h6)])
  have e6 : (op == 8) = true := beq_iff_eq.2 h6
  clear h6 h5 h4
  go_enter Tryz.func68, Tryz.ntmps68
  go_wp2
  go_ret
  exact ⟨by rw [HE.out]; rfl, rfl⟩
 have e6 : (op == 8) = false := bF h6
 have HE : Hid (ar op = 1) := (by show ar op = _; unfold ar; rw [if_neg (by omega), if_neg (by omega), if_neg (by omega)])
 clear h6 h5 h4
 go_enter Tryz.func68, Tryz.ntmps68
 go_wp2
 go_ret
 exact ⟨by rw [HE.out]; rfl, rfl⟩
theorem zdF (s : ByteArray) (hs : s.size <= 140737488355328) (w : World) : Calls Tryz.prog 120 #[.string s] w fun e w' => e = .returned (.bool (nmB s)) /\ w' = w := by
 have HD : Hid (∀ c w, Calls Tryz.prog 147 #[.int .u8 c] w fun e w' => e = .returned (.bool (dgB c)) /\ w' = w) := fun c w => zep c w
 have HL : Hid (∀ c w, Calls Tryz.prog 148 #[.int .u8 c] w fun e w' => e = .returned (.bool (ltB c)) /\ w' = w) := fun c w => zgd c w
 by_cases h0 : s.size = 0
 ·have HE : Hid (nmB s = false) := zjM (fun h => by have := h.1; omega)
  have q0 := zeL h0
  clear h0 HD HL hs
  go_enter Tryz.func120, Tryz.ntmps120
  go_wp2_with fail
  go_ret
  exact ⟨by rw [HE.out]; rfl, rfl⟩
 have q0 := zel h0
 by_cases h1 : 32 < s.size
 ·have HE : Hid (nmB s = false) := zjM (fun h => by have := h.2.1; omega)
  have z1 : (32 : Int) < (s.size : Int) := by omega
  clear h0 HD HL hs
  go_enter Tryz.func120, Tryz.ntmps120
  go_wp2_with fail
  go_ret
  exact ⟨by rw [HE.out]; rfl, rfl⟩
 have z1 : ¬ (32 : Int) < (s.size : Int) := by omega
 have hp : 0 < s.size := by omega
 cases hd : dgB (s[0].toNat : Int) with
 | true =>
  have HE : Hid (nmB s = false) := zjM (fun h => by have := h.2.2.1 hp; rw [hd] at this; cases this)
  go_enter Tryz.func120, Tryz.ntmps120
  go_wp2_with fail
  refine (HD.out _ _).mono ?_
  rintro e w ⟨rfl, rfl⟩
  rw [hd]
  clear HD HL hd
  go_wp2_with fail
  go_ret
  exact ⟨by rw [HE.out]; rfl, rfl⟩
 | false =>
  have HN : Hid ((∀ (j : Nat) (h : j < s.size), nmC (s[j].toNat : Int) = true) -> nmB s = true) := fun h => nmB_t ⟨hp, by omega, fun _ => hd, h⟩
  have HM : Hid (∀ (j : Nat) (h : j < s.size), nmC (s[j].toNat : Int) = false -> nmB s = false) := fun j h e => zjM (fun q => by have := q.2.2.2 j h; rw [e] at this; cases this)
  go_enter Tryz.func120, Tryz.ntmps120
  go_wp2_with fail
  refine (HD.out _ _).mono ?_
  rintro e w ⟨rfl, rfl⟩
  rw [hd]
  clear hd
  go_wp2_with fail
  go_loopw [18] (fun t wr => ∃ k : Nat, k <= s.size /\ t = .int .i64 k /\ wr = w /\ Hid (∀ (j : Nat) (h : j < s.size), j < k -> nmC (s[j].toNat : Int) = true)) (fun t _ => s.size - (intOf t).toNat)
  case atStart => exact ⟨0, by omega, by go_num, rfl, fun j h q => by omega⟩
  case round =>
   obtain ⟨k, hk, rfl, rfl, HI⟩ := hrel
   by_cases hlt : k < s.size
   ·have z3 : (0 : Int) <= (k : Int) := by omega
    have z4 : (k : Int) < (s.size : Int) := by omega
    have HC : Hid (nmC (s[k].toNat : Int) = (dgB (s[k].toNat : Int) || ltB (s[k].toNat : Int) || (s[k].toNat : Int) == 95)) := rfl
    cases hd2 : dgB (s[k].toNat : Int) with
    | true =>
     have HI2 : Hid (∀ (j : Nat) (h : j < s.size), j < k + 1 -> nmC (s[j].toNat : Int) = true) := fun j h q => by
      by_cases hj : j < k
      ·exact HI.out j h hj
      ·obtain rfl : j = k := by omega
       rw [HC.out, hd2]; rfl
     clear HI HC HN HM
     go_wp2_with fail
     refine (HD.out _ _).mono ?_
     rintro e w ⟨rfl, rfl⟩
     rw [hd2]
     clear hd2 HD HL
     go_wp2_with fail
     go_roundw
     case rel => exact ⟨k + 1, by omega, by go_num, trivial, HI2⟩
     case measure => simp [intOf]; omega
    | false =>
     cases hl2 : ltB (s[k].toNat : Int) with
     | true =>
      have HI2 : Hid (∀ (j : Nat) (h : j < s.size), j < k + 1 -> nmC (s[j].toNat : Int) = true) := fun j h q => by
       by_cases hj : j < k
       ·exact HI.out j h hj
       ·obtain rfl : j = k := by omega
        rw [HC.out, hd2, hl2]; rfl
      clear HI HC HN HM
      go_wp2_with fail
      refine (HD.out _ _).mono ?_
      rintro e w ⟨rfl, rfl⟩
      rw [hd2]
      clear hd2 HD
      go_wp2_with fail
      refine (HL.out _ _).mono ?_
      rintro e w ⟨rfl, rfl⟩
      rw [hl2]
      clear hl2 HL
      go_wp2_with fail
      go_roundw
      case rel => exact ⟨k + 1, by omega, by go_num, trivial, HI2⟩
      case measure => simp [intOf]; omega
     | false =>
      by_cases h95 : (s[k].toNat : Int) = 95
      ·have e95 : ((s[k].toNat : Int) == 95) = true := beq_iff_eq.2 h95
       have HI2 : Hid (∀ (j : Nat) (h : j < s.size), j < k + 1 -> nmC (s[j].toNat : Int) = true) := fun j h q => by
        by_cases hj : j < k
        ·exact HI.out j h hj
        ·obtain rfl : j = k := by omega
         rw [HC.out, hd2, hl2, e95]; rfl
       clear HI HC HN HM h95
       go_wp2_with fail
       refine (HD.out _ _).mono ?_
       rintro e w ⟨rfl, rfl⟩
       rw [hd2]
       clear hd2 HD
       go_wp2_with fail
       refine (HL.out _ _).mono ?_
       rintro e w ⟨rfl, rfl⟩
       rw [hl2]
       clear hl2 HL
       go_wp2_with fail
       go_roundw
       case rel => exact ⟨k + 1, by omega, by go_num, trivial, HI2⟩
       case measure => simp [intOf]; omega
      ·have e95 : ((s[k].toNat : Int) == 95) = false := bF h95
       have HE : Hid (nmB s = false) := HM.out k hlt (by rw [HC.out, hd2, hl2, e95]; rfl)
       clear HI HC HN HM h95
       go_wp2_with fail
       refine (HD.out _ _).mono ?_
       rintro e w ⟨rfl, rfl⟩
       rw [hd2]
       clear hd2 HD
       go_wp2_with fail
       refine (HL.out _ _).mono ?_
       rintro e w ⟨rfl, rfl⟩
       rw [hl2]
       clear hl2 HL
       go_wp2_with fail
       go_ret
       exact ⟨by rw [HE.out]; rfl, rfl⟩
   ·obtain rfl : k = s.size := by omega
    have HE : Hid (nmB s = true) := HN.out (fun j h => HI.out j h h)
    clear HD HL HN HM HI
    go_wp2_with fail
    go_ret
    exact ⟨by rw [HE.out]; rfl, rfl⟩
theorem tm_end (s : ByteArray) (m i : Nat) (h : ¬ i < s.size) : ze4 s m i = true := by
 cases m with
 | zero => rfl
 | succ m => rw [ze4, dif_neg h]
theorem zmy {s : ByteArray} {m i : Nat} (h : i < s.size) (q : s.size <= i + m) (e : ¬ (s[i].toNat : Int) = 37) : ∃ m2, s.size <= i + 1 + m2 /\ ze4 s m i = ze4 s m2 (i + 1) := by
 cases m with
 | zero => omega
 | succ m => exact ⟨m, by omega, by rw [ze4, dif_pos h, if_neg e]⟩
theorem zn9 {s : ByteArray} {m i : Nat} (h : i < s.size) (q : s.size <= i + m) (e : (s[i].toNat : Int) = 37) (h2 : i + 1 < s.size) (d : (s[i + 1].toNat : Int) = 37 ∨ dgB (s[i + 1].toNat : Int) = true) : ∃ m2, s.size <= i + 2 + m2 /\ ze4 s m i = ze4 s m2 (i + 2) := by
 cases m with
 | zero => omega
 | succ m => exact ⟨m, by omega, by rw [ze4, dif_pos h, if_pos e, dif_pos h2, if_pos d]⟩
theorem tm_cut {s : ByteArray} {m i : Nat} (h : i < s.size) (q : s.size <= i + m) (e : (s[i].toNat : Int) = 37) (h2 : ¬ i + 1 < s.size) : ze4 s m i = false := by
 cases m with
 | zero => omega
 | succ m => rw [ze4, dif_pos h, if_pos e, dif_neg h2]
theorem tm_bad {s : ByteArray} {m i : Nat} (h : i < s.size) (q : s.size <= i + m) (e : (s[i].toNat : Int) = 37) (h2 : i + 1 < s.size) (d : ¬ (s[i + 1].toNat : Int) = 37) (d2 : dgB (s[i + 1].toNat : Int) = false) : ze4 s m i = false := by
 cases m with
 | zero => omega
 | succ m => rw [ze4, dif_pos h, if_pos e, dif_pos h2, if_neg (by rw [d2]; simp only [Bool.false_eq_true, or_false]; exact d)]
theorem zeN (s : ByteArray) (hs : s.size <= 140737488355328) (w : World) : Calls Tryz.prog 121 #[.string s] w fun e w' => e = .returned (.bool (tmB s)) /\ w' = w := by
 have HD : Hid (∀ c w, Calls Tryz.prog 147 #[.int .u8 c] w fun e w' => e = .returned (.bool (dgB c)) /\ w' = w) := fun c w => zep c w
 by_cases h1 : 255 < s.size
 ·have HE : Hid (tmB s = false) := (by show tmB s = _; unfold tmB; rw [if_neg (by omega)])
  have z1 : (255 : Int) < (s.size : Int) := by omega
  clear HD hs
  go_enter Tryz.func121, Tryz.ntmps121
  go_wp2_with fail
  go_ret
  exact ⟨by rw [HE.out]; rfl, rfl⟩
 have z1 : ¬ (255 : Int) < (s.size : Int) := by omega
 have HB : Hid (tmB s = ze4 s s.size 0) := (by show tmB s = _; unfold tmB; rw [if_pos (by omega)])
 go_enter Tryz.func121, Tryz.ntmps121
 go_wp2_with fail
 go_loopw [3] (fun t wr => ∃ k : Nat, k <= s.size /\ t = .int .i64 k /\ wr = w /\ Hid (∃ m, s.size <= k + m /\ tmB s = ze4 s m k)) (fun t _ => s.size - (intOf t).toNat)
 case atStart => exact ⟨0, by omega, by go_num, rfl, ⟨s.size, by omega, HB.out⟩⟩
 case round =>
  obtain ⟨k, hk, rfl, rfl, HI⟩ := hrel
  clear HB
  obtain ⟨m, hm, HJ⟩ := HI.out
  have HJ := hO HJ
  clear HI
  by_cases hlt : k < s.size
  ·have z3 : (0 : Int) <= (k : Int) := by omega
   have z4 : (k : Int) < (s.size : Int) := by omega
   by_cases h37 : (s[k].toNat : Int) = 37
   ·have e37 : ((s[k].toNat : Int) == 37) = true := beq_iff_eq.2 h37
    by_cases h2 : k + 1 < s.size
    ·have z5 : ((k : Int) + 1 == (s.size : Int)) = false := bF (by omega)
     have z6 : (k : Int) + 1 < (s.size : Int) := by omega
     by_cases g37 : (s[k + 1].toNat : Int) = 37
     ·have f37 : ((s[k + 1].toNat : Int) != 37) = false := by rw [bne, beq_iff_eq.2 g37]; rfl
      have HK : Hid (∃ m2, s.size <= k + 2 + m2 /\ tmB s = ze4 s m2 (k + 2)) := by
       obtain ⟨m2, u, v⟩ := zn9 hlt hm h37 h2 (.inl g37)
       exact ⟨m2, u, HJ.out.trans v⟩
      clear HJ h37 g37 HD
      go_wp2_with fail
      go_roundw
      case rel => exact ⟨k + 2, by omega, by go_num, trivial, HK⟩
      case measure => simp [intOf]; omega
     ·have f37 : ((s[k + 1].toNat : Int) != 37) = true := by rw [bne, bF g37]; rfl
      cases hd : dgB (s[k + 1].toNat : Int) with
      | true =>
       have HK : Hid (∃ m2, s.size <= k + 2 + m2 /\ tmB s = ze4 s m2 (k + 2)) := by
        obtain ⟨m2, u, v⟩ := zn9 hlt hm h37 h2 (.inr hd)
        exact ⟨m2, u, HJ.out.trans v⟩
       clear HJ h37 g37
       go_wp2_with fail
       refine (HD.out _ _).mono ?_
       rintro e w ⟨rfl, rfl⟩
       rw [hd]
       clear hd HD
       go_wp2_with fail
       go_roundw
       case rel => exact ⟨k + 2, by omega, by go_num, trivial, HK⟩
       case measure => simp [intOf]; omega
      | false =>
       have HE : Hid (tmB s = false) := HJ.out.trans (tm_bad hlt hm h37 h2 g37 hd)
       clear HJ h37 g37
       go_wp2_with fail
       refine (HD.out _ _).mono ?_
       rintro e w ⟨rfl, rfl⟩
       rw [hd]
       clear hd HD
       go_wp2_with fail
       go_ret
       exact ⟨by rw [HE.out]; rfl, rfl⟩
    ·have z5 : ((k : Int) + 1 == (s.size : Int)) = true := beq_iff_eq.2 (by omega)
     have HE : Hid (tmB s = false) := HJ.out.trans (tm_cut hlt hm h37 h2)
     clear HJ h37 HD
     go_wp2_with fail
     go_ret
     exact ⟨by rw [HE.out]; rfl, rfl⟩
   ·have e37 : ((s[k].toNat : Int) == 37) = false := bF h37
    have HK : Hid (∃ m2, s.size <= k + 1 + m2 /\ tmB s = ze4 s m2 (k + 1)) := by
     obtain ⟨m2, u, v⟩ := zmy hlt hm h37
     exact ⟨m2, u, HJ.out.trans v⟩
    clear HJ h37 HD
    go_wp2_with fail
    go_roundw
    case rel => exact ⟨k + 1, by omega, by go_num, trivial, HK⟩
    case measure => simp [intOf]; omega
  ·obtain rfl : k = s.size := by omega
   have HE : Hid (tmB s = true) := HJ.out.trans (tm_end s m _ (by omega))
   clear HD HJ
   go_wp2_with fail
   go_ret
   exact ⟨by rw [HE.out]; rfl, rfl⟩
def seE (a b c d a' b' c' d' : Int) : Bool := (a == a') && ((b == b') && ((c == c') && (d == d')))
def ndE (m n : Nd) : Bool := (m.op == n.op) && ((m.nn == n.nn) && ((m.tx.toList == n.tx.toList) && seE m.s0 m.s1 m.s2 m.s3 n.s0 n.s1 n.s2 n.s3))
theorem zmz (m : Nd) : ndE m m = true := by unfold ndE seE; simp
theorem eq41d (m : Nat) (a b c d a' b' c' d' : Int) (w : World) : (Op.equalIn (m + 2) 49 (.agg #[.int .u64 a, .int .u64 b, .int .u64 c, .int .u64 d]) (.agg #[.int .u64 a', .int .u64 b', .int .u64 c', .int .u64 d'])).run Tryz.prog w = .ok (seE a b c d a' b' c' d') w := by
 have u3 := Tryz.underlying48
 have a3 := Tryz.isAgg48
 have z3 := Tryz.sizeOf48
 rw [Op.equalIn]
 simp only [Sem.run_bind, run_underlying Tryz.underlying49, Result.andThen_ok]
 simp only [Std.Legacy.Range.forIn_eq_forIn_range', Std.Legacy.Range.size, Nat.sub_zero, Nat.add_sub_cancel, Nat.div_one, List.range'_succ, List.range'_zero, List.forIn_cons, List.forIn_nil]
 unfold seE
 cases ha : (a == a')
 ·go_simp
 cases hb : (b == b')
 ·go_simp
 cases hc : (c == c')
 ·go_simp
 cases hd : (d == d')
 ·go_simp
 go_simp
theorem eq41 (a b c d a' b' c' d' : Int) (w : World) : (Op.equalIn 9999 49 (.agg #[.int .u64 a, .int .u64 b, .int .u64 c, .int .u64 d]) (.agg #[.int .u64 a', .int .u64 b', .int .u64 c', .int .u64 d'])).run Tryz.prog w = .ok (seE a b c d a' b' c' d') w := eq41d 9997 a b c d a' b' c' d' w
theorem eq41e (a b c d a' b' c' d' : Int) (w : World) : (Op.equalIn 10000 49 (.agg #[.int .u64 a, .int .u64 b, .int .u64 c, .int .u64 d]) (.agg #[.int .u64 a', .int .u64 b', .int .u64 c', .int .u64 d'])).run Tryz.prog w = .ok (seE a b c d a' b' c' d') w := eq41d 9998 a b c d a' b' c' d' w
theorem node_neq (m n : Nd) (W : World) : (binOp .neq 51 (ndG m) (ndG n)).run Tryz.prog W = .ok (.bool (!ndE m n)) W := by
 have hp : Tryz.prog.stoodInHeld 51 = false := by kernel_rfl
 unfold ndE
 cases ha : (m.op == n.op)
 ·simp [go_sem, Tryz.underlying51, Tryz.underlying3, Tryz.underlying9, Tryz.isAgg49, Tryz.isAgg3, Tryz.isAgg9, Tryz.sizeOf49, hp, eq41, ha]
 cases hb : (m.nn == n.nn)
 ·simp [go_sem, Tryz.underlying51, Tryz.underlying3, Tryz.underlying9, Tryz.isAgg49, Tryz.isAgg3, Tryz.isAgg9, Tryz.sizeOf49, hp, eq41, ha, hb]
 cases hc : (m.tx.toList == n.tx.toList)
 ·simp [go_sem, Tryz.underlying51, Tryz.underlying3, Tryz.underlying9, Tryz.isAgg49, Tryz.isAgg3, Tryz.isAgg9, Tryz.sizeOf49, hp, eq41, ha, hb, hc]
 cases hd : seE m.s0 m.s1 m.s2 m.s3 n.s0 n.s1 n.s2 n.s3
 ·simp [go_sem, Tryz.underlying51, Tryz.underlying3, Tryz.underlying9, Tryz.isAgg49, Tryz.isAgg3, Tryz.isAgg9, Tryz.sizeOf49, hp, eq41, ha, hb, hc, hd]
 simp [go_sem, Tryz.underlying51, Tryz.underlying3, Tryz.underlying9, Tryz.isAgg49, Tryz.isAgg3, Tryz.isAgg9, Tryz.sizeOf49, hp, eq41, ha, hb, hc, hd]
theorem zo6 (a b c d a' b' c' d' : Int) (W : World) : (binOp .eql 49 (.agg #[.int .u64 a, .int .u64 b, .int .u64 c, .int .u64 d]) (.agg #[.int .u64 a', .int .u64 b', .int .u64 c', .int .u64 d'])).run Tryz.prog W = .ok (.bool (seE a b c d a' b' c' d')) W := by
 have h := eq41e a b c d a' b' c' d'
 simp [go_sem, h]
theorem zmA (op a b c d : Int) (h : ¬ op = 5) : seE a b c d 0 0 0 0 = seF op a b c d := by
 unfold seE seF
 rw [if_neg h]
 by_cases ha : a = 0 <;> by_cases hb : b = 0 <;> by_cases hc : c = 0 <;> by_cases hd : d = 0 <;> simp [ha, hb, hc, hd]
end Go.Proofs.YtnpifgcgjgddoaaGreatDoor.T
