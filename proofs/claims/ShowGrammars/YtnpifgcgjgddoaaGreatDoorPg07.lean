/- DERIVED. Plain mathematics and walks, laid together (7). -/
import Derived.Lib.Builder
import Derived.Test.YtnpifgcgjgddoaaGreatDoorPg06
namespace Go.Proofs.YtnpifgcgjgddoaaGreatDoor.N
open Go.RowKit
set_option maxHeartbeats 1000000 in
set_option maxRecDepth 100000 in
theorem pg_fresh (b : Nat) (w : World) (h0 : w.cell? ⟨b, 0, none⟩ = some (.pointer none)) (hsh : w.shape? b = some (59, 2)) (hfz : w.frozen? ⟨b, 0, none⟩ = false) :
    Calls Tryz.prog 71 #[.pointer (some ⟨b, 0, none⟩)] w fun e w' => e = .returned (.tuple #[]) ∧ w' = w.setCell ⟨b, 0, none⟩ (.pointer (some ⟨b, 0, none⟩)) := by
  obtain ⟨j, hj, hjs⟩ := Option.map_eq_some_iff.1 Tryz.sizeB
  go_enter Tryz.func71, Tryz.ntmps71
  go_wp2
  rw [Lib.run_to_unsafe w ⟨b, 0, none⟩ Tryz.underlying54 Tryz.underlying140 hj (by rw [hjs]; decide) hsh (Nat.zero_lt_succ 1)]
  simp only [Result.andThen]
  rw [Oper.upon_value]
  go_wp2
  rw [run_callFunc_extern Tryz.func94 (by kernel_rfl) (by kernel_rfl) (by kernel_rfl) (e := Extern.AbiNoEscape.same) (by kernel_rfl)]
  rw [Lib.run_noEscape]
  simp only [Result.andThen]
  rw [Oper.upon_value]
  go_wp2
  rw [Lib.run_from_unsafe w ⟨b, 0, none⟩ Tryz.underlying140 Tryz.underlying54 hj hsh (by kernel_rfl)]
  simp only [Result.andThen]
  rw [Oper.upon_value]
  go_wp2
  go_end0
  exact ⟨rfl, rfl⟩

theorem pg_check (b : Nat) (bs : List Value) (w : World) (h : Lib.IsBuilder 59 5 b b bs w) :
    Calls Tryz.prog 71 #[.pointer (some ⟨b, 0, none⟩)] w fun e w' => e = .returned (.tuple #[]) ∧ Lib.BuilderAt 59 5 b b (.pointer (some ⟨b, 0, none⟩)) bs w' ∧ Below b w w' ∧ KeepT b w w' := by
  rcases h with h | h
  · refine (pg_fresh b w h.cell0 h.shape h.frozen0).mono ?_
    rintro e w' ⟨rfl, rfl⟩
    exact ⟨rfl, h.used _, (Below.refl b w).setCell (p := ⟨b, 0, none⟩) h.1 _, KeepT.setCell b 0 w _⟩
  · refine (check_used b w h.cell0).mono ?_
    rintro e w' ⟨rfl, rfl⟩
    exact ⟨rfl, h, Below.refl b _, KeepT.refl b _⟩

set_option maxHeartbeats 1000000 in
set_option maxRecDepth 100000 in
theorem pg_write (b : Nat) (bs : List Value) (s : ByteArray) (w : World) (h : Lib.IsBuilder 59 5 b b bs w) (hlen : bs.length + s.size ≤ 140737488355328) :
    Calls Tryz.prog 48 #[.pointer (some ⟨b, 0, none⟩), .string s] w fun e w' => e = .returned (.tuple #[.int .i64 s.size, .nilIface]) ∧ Lib.IsBuilder 59 5 b b (bs ++ Lib.strCells s) w' ∧ Below b w w' ∧ KeepT b w w' := by
  obtain ⟨i0, hi, hz0, hz1, hz2⟩ := info_parts Tryz.info5
  go_enter Tryz.func48, Tryz.ntmps48
  go_wp2_with fail
  refine (pg_check b bs _ h).mono ?_
  rintro e w1 ⟨rfl, h1, hb1, hk1⟩
  have hlt := h1.lt
  obtain ⟨hB, v, hbk, hown, hne⟩ := h1
  have c0 : w1.cell? ⟨b, 0, none⟩ = some (.pointer (some ⟨b, 0, none⟩)) := by rw [Lib.cell_of_heap hbk]; rfl
  have c1 : w1.cell? ⟨b, 1, none⟩ = some v := by rw [Lib.cell_of_heap hbk]; rfl
  go_wp2_with (at_builtin; refine Lib.wpList_append_own_string _ rfl _ _ 55 9 rfl b 5 i0 Tryz.underlying55 Tryz.underlying9 hi hz0 hz1 hz2 _ _ _ rfl hown s rfl ?c3 ?c4 ?c5 ?_)
  case c3 => unfold maxLen; omega
  case c4 => omega
  case c5 => omega
  intro v' w2 hown' hgrow _
  have hb2 : w2.heap[b]? = some (.cells #[.pointer (some ⟨b, 0, none⟩), v] 59 (0, 0)) := by
    rw [hgrow.block b hlt (fun e => hne e.symm)]
    exact hbk
  have d0 : w2.cell? ⟨b, 0, none⟩ = some (.pointer (some ⟨b, 0, none⟩)) := by rw [Lib.cell_of_heap hb2]; rfl
  have d1 : w2.cell? ⟨b, 1, none⟩ = some v := by rw [Lib.cell_of_heap hb2]; rfl
  have f1 : w2.frozen? ⟨b, 1, none⟩ = false := Lib.frozen_of_heap hb2 1
  obtain ⟨ao, n', cap, rfl⟩ : ∃ ao n' cap, v' = .slice ao n' cap := by
    rcases hown'.2 with ⟨hv, _⟩ | ⟨g, cap, cur, hv, _⟩
    · exact ⟨_, _, _, hv⟩
    · exact ⟨_, _, _, hv⟩
  go_wp2
  go_ret2
  refine ⟨rfl, .inr ?_, ?_, ?_⟩
  · exact Lib.BuilderAt.put (T := 59) (e := 5) hB hb2 (bs' := bs ++ Lib.strCells s) (by simpa [Lib.strCells_length] using hown') (by decide)
  · exact (hb1.grown hgrow (by omega) (fun k hk => (hown.lt k hk).1)).setCell (p := ⟨b, 1, none⟩) hB _
  · exact (hk1.trans (KeepT.grown hown hgrow)).trans (KeepT.setCell b 1 w2 _)

set_option maxHeartbeats 1000000 in
set_option maxRecDepth 100000 in
theorem pg_len (b : Nat) (bs : List Value) (w : World) (h : Lib.IsBuilder 59 5 b b bs w) : Calls Tryz.prog 50 #[.pointer (some ⟨b, 0, none⟩)] w fun e w' => e = .returned (.int .i64 bs.length) ∧ w' = w := by
  obtain ⟨p, hB, v, hbk, hown, hne⟩ : ∃ p, Lib.BuilderAt 59 5 b b p bs w := by
    rcases h with h | h
    · exact ⟨_, h⟩
    · exact ⟨_, h⟩
  have c1 : w.cell? ⟨b, 1, none⟩ = some v := by rw [Lib.cell_of_heap hbk]; rfl
  obtain ⟨ao, cap, rfl⟩ : ∃ ao cap, v = .slice ao bs.length cap := by
    rcases hown.2 with ⟨hv, hz⟩ | ⟨g, cap, cur, hv, _⟩
    · exact ⟨none, 0, by rw [hv, hz]⟩
    · exact ⟨_, _, hv⟩
  go_enter Tryz.func50, Tryz.ntmps50
  go_wp2
  go_ret
  exact ⟨rfl, rfl⟩

set_option maxHeartbeats 2000000 in
set_option maxRecDepth 100000 in
theorem pg_text (b : Nat) (l : List UInt8) (w : World) (h : Lib.IsBuilder 59 5 b b (Lib.byteCells l) w) (h0 : l ≠ []) : Calls Tryz.prog 51 #[.pointer (some ⟨b, 0, none⟩)] w fun e w' => e = .returned (.string ⟨l.toArray⟩) ∧ Below b w w' := by
  obtain ⟨p, hB, v, hbk, hown, hne⟩ : ∃ p, Lib.BuilderAt 59 5 b b p (Lib.byteCells l) w := by
    rcases h with h | h
    · exact ⟨_, h⟩
    · exact ⟨_, h⟩
  have hl0 : l.length ≠ 0 := by simpa using h0
  rw [Lib.byteCells_length] at hown
  obtain ⟨g, cap, cur, rfl, hbg, hg, hnc, hcm, hcs, htake⟩ : ∃ g cap cur, v = .slice (some ⟨g, 0, none⟩) l.length cap ∧ b ≤ g ∧ w.heap[g]? = some (.cells cur 5 (0, 0)) ∧ l.length ≤ cap ∧ cap ≤ maxLen ∧ cur.size = cap * 1 ∧ cur.toList.take (l.length * 1) = Lib.byteCells l := by
    rcases hown.2 with ⟨_, hz⟩ | ⟨g, cap, cur, hv, r⟩
    · exact absurd hz hl0
    · exact ⟨g, cap, cur, hv, r⟩
  have c1 : w.drew.cell? ⟨b, 1, none⟩ = some (.slice (some ⟨g, 0, none⟩) l.length cap) := by
    have : w.drew.heap[b]? = some (.cells #[p, .slice (some ⟨g, 0, none⟩) l.length cap] 59 (0, 0)) := hbk
    rw [Lib.cell_of_heap this]; rfl
  have hSD : (Builtin.unsafeSliceData_ #[55] 128 #[.slice (some ⟨g, 0, none⟩) l.length cap]).run Tryz.prog w.drew = .ok (.pointer (some ⟨g, 0, none⟩)) w.drew :=
    Lib.run_unsafeSliceData_row _ _ _ _ _ _ (by omega)
  have hUS : (Builtin.unsafeString_ #[128, 3] 9 #[.pointer (some ⟨g, 0, none⟩), .int .i64 l.length]).run Tryz.prog w.drew = .ok (.string ⟨l.toArray⟩) (w.drew.freeze ⟨g, 0, none⟩ l.length) := by
    refine Lib.run_unsafeString_row w.drew 128 3 9 5 Tryz.underlying128 (by kernel_rfl) g cur.size (by have hg' : w.drew.heap[g]? = some (.cells cur 5 (0, 0)) := hg; simp [World.shape?, hg']) l h0 (by omega) (by unfold maxLen at hcm; omega) ?_
    intro j x hx
    have := hown.cells (g := g) rfl j (.int .u8 x.toNat) (by simp [Lib.byteCells, hx])
    exact this
  have mixed : Tryz.prog.follows Departure.mixedOrders = true := by kernel_rfl
  go_enter Tryz.func51, Tryz.ntmps51
  go_wp2
  go_region_o
  all_goals (go_wp2; go_ret; exact ⟨rfl, Lib.below_freeze (Below.drew (Below.refl b w)) (p := ⟨g, 0, none⟩) hbg _⟩)

theorem dlen (s : ByteArray) : s.data.toList.length = s.size := by rw [Array.length_toList]; rfl
/-- Texts one behind the other. -/
def catS (ss : List ByteArray) : List UInt8 := ss.flatMap fun s => s.data.toList
theorem catS_succ {ss : List ByteArray} {k : Nat} {s : ByteArray} (h : ss[k]? = some s) : catS (ss.take (k + 1)) = catS (ss.take k) ++ s.data.toList := by
  rw [List.take_add_one, h]
  unfold catS
  rw [List.flatMap_append]
  simp
theorem catS_take_le (ss : List ByteArray) (k : Nat) : (catS (ss.take k)).length ≤ (catS ss).length := by
  have h : catS ss = catS (ss.take k) ++ catS (ss.drop k) := by
    unfold catS
    rw [← List.flatMap_append, List.take_append_drop]
  rw [h, List.length_append]
  omega
/-- The page holds a text; all but it is as it was. -/
structure Pg (b : Nat) (w wr : World) (bs : List UInt8) : Prop where
  i : Lib.IsBuilder 59 5 b b (Lib.byteCells bs) wr
  bl : Below b w wr
  k : KeepT b w wr
theorem Pg.start {b : Nat} {w : World} {bs : List UInt8} (h : Lib.IsBuilder 59 5 b b (Lib.byteCells bs) w) : Pg b w w bs := ⟨h, Below.refl _ _, KeepT.refl _ _⟩
theorem pg_lt {b : Nat} {w : World} {bs : List Value} (h : Lib.IsBuilder 59 5 b b bs w) : b < w.heap.size := by
  rcases h with h | h
  · exact h.lt
  · exact h.lt
theorem pg_below {w w' : World} {b : Nat} {bs : List Value} (h : Lib.IsBuilder 59 5 b b bs w) (hb : Below w.heap.size w w') : Lib.IsBuilder 59 5 b b bs w' := by
  have key : ∀ p, Lib.BuilderAt 59 5 b b p bs w → Lib.BuilderAt 59 5 b b p bs w' := fun p hp => by
    have hlt := hp.lt
    obtain ⟨hB, v, hbk, hown, hne⟩ := hp
    exact ⟨hB, v, (hb.block b hlt).trans hbk, T.own_below hown hb, hne⟩
  exact h.imp (key _) (key _)
theorem Pg.later {b : Nat} {w wr w2 : World} {bs : List UInt8} (h : Pg b w wr bs) (hb : Below wr.heap.size wr w2) : Pg b w w2 bs :=
  ⟨pg_below h.i hb, h.bl.trans (hb.mono (Nat.le_of_lt (pg_lt h.i))), h.k.trans (KeepT.below hb)⟩
theorem Pg.trans {b : Nat} {w w1 w2 : World} {bs bs' : List UInt8} (h : Pg b w w1 bs) (k : Pg b w1 w2 bs') : Pg b w w2 bs' := ⟨k.i, h.bl.trans k.bl, h.k.trans k.k⟩
/-- A row that is no row of bytes, and not the page, reads as it did. -/
structure Fx (W : World) (b g : Nat) (c : Array Value) (t : TypeId) : Prop where
  e : ∃ fr, W.heap[g]? = some (.cells c t fr)
  n : g ≠ b
  t : t ≠ 5
theorem Fx.keep {W W' : World} {b g : Nat} {c : Array Value} {t : TypeId} (h : Fx W b g c t) (k : KeepT b W W') : Fx W' b g c t := by
  obtain ⟨⟨fr, he⟩, hn, ht⟩ := h
  refine ⟨⟨fr, ?_⟩, hn, ht⟩
  rw [k.block g (Array.getElem?_eq_some_iff.1 he).1 hn (fun c' fr' q => by rw [he] at q; cases q; exact ht rfl)]
  exact he
theorem Fx.cell {W : World} {b g : Nat} {c : Array Value} {t : TypeId} (h : Fx W b g c t) (j : Nat) : W.cell? ⟨g, j, none⟩ = c[j]? := by
  obtain ⟨⟨fr, he⟩, _, _⟩ := h
  exact Lib.cell_of_heap he j
set_option maxHeartbeats 2000000 in
set_option maxRecDepth 100000 in
theorem add_any (b g : Nat) (bs : List UInt8) (ss : List ByteArray) (w : World) (h : Lib.IsBuilder 59 5 b b (Lib.byteCells bs) w) (hr : Fx w b g (ss.map Value.string).toArray 9) (hlen : bs.length + (catS ss).length ≤ 140737488355328) (hn : ss.length ≤ 2) :
    Calls Tryz.prog 27 #[.pointer (some ⟨b, 0, none⟩), .slice (some ⟨g, 0, none⟩) ss.length ss.length] w fun e w' => e = .returned (.tuple #[]) ∧ Pg b w w' (bs ++ catS ss) := by
  have HP : Hid (Pg b w w (bs ++ catS (ss.take 0))) := by
    show Pg b w w (bs ++ catS (ss.take 0))
    rw [List.take_zero]; show Pg b w w (bs ++ []); rw [List.append_nil]; exact Pg.start h
  have HR := (show Hid (Fx w b g (ss.map Value.string).toArray 9) from hr)
  have HL := (show Hid (bs.length + (catS ss).length ≤ 140737488355328) from hlen)
  have HG := (show Hid (∀ k, k < ss.length → ∃ s, ss[k]? = some s) from fun k hk => ⟨_, List.getElem?_eq_getElem hk⟩)
  have HT := (show Hid (ss.take ss.length = ss) from List.take_length)
  clear h hr hlen
  generalize hm : ss.length = m at *
  go_enter Tryz.func27, Tryz.ntmps27
  go_wp2_with fail
  go_loopw [8] (fun t wr => ∃ k : Nat, k ≤ m ∧ t = .int .i64 k ∧ Hid (Pg b w wr (bs ++ catS (ss.take k)))) (fun t _ => m - (intOf t).toNat)
  case atStart => exact ⟨0, by omega, by go_num, HP⟩
  case round =>
    obtain ⟨k, hk, rfl, HW⟩ := hrel
    clear HP
    by_cases hlt : k < m
    · obtain ⟨s, hs⟩ := HG.out k hlt
      have c0 : wr.cell? ⟨g, k, none⟩ = some (.string s) := by
        rw [(HR.out.keep HW.out.k).cell k]
        simp [hs]
      have HE := (show Hid (catS (ss.take (k + 1)) = catS (ss.take k) ++ s.data.toList) from catS_succ hs)
      have hle := catS_take_le ss (k + 1)
      have hL := HL.out
      have HC : Hid (∀ _ : Unit, Calls Tryz.prog 48 #[.pointer (some ⟨b, 0, none⟩), .string s] wr fun e w' => e = .returned (.tuple #[.int .i64 s.size, .nilIface]) ∧ Lib.IsBuilder 59 5 b b (Lib.byteCells (bs ++ catS (ss.take k)) ++ Lib.strCells s) w' ∧ Below b wr w' ∧ KeepT b wr w') := fun _ => pg_write b _ s wr HW.out.i (by
        rw [HE.out, List.length_append] at hle
        rw [Lib.byteCells_length, List.length_append]
        have := dlen s
        omega)
      have z0 : (0 : Int) ≤ (k : Int) := by omega
      have z1 : (k : Int) < (m : Int) := by omega
      clear hle hL hs HG HL
      go_wp2_with fail
      refine (HC.out ()).mono ?_
      rintro e w1 ⟨rfl, i1, b1, k1⟩
      have HW2 : Hid (Pg b w w1 (bs ++ catS (ss.take (k + 1)))) := by
        show Pg b w w1 _
        rw [HE.out, ← List.append_assoc]
        refine ⟨?_, HW.out.bl.trans b1, HW.out.k.trans k1⟩
        rw [bcells, ← scells]
        exact i1
      clear HC HE HW i1 b1 k1 c0
      go_wp2_with fail
      go_roundw
      case rel => exact ⟨k + 1, by omega, by go_num, HW2⟩
      case measure => simp [intOf]; omega
    · have z1 : ¬ (k : Int) < (m : Int) := by omega
      have hkm : k = m := by omega
      subst hkm
      clear HG
      go_wp2_with fail
      go_end0
      have := HW.out
      rw [HT.out] at this
      exact ⟨rfl, this⟩
end Go.Proofs.YtnpifgcgjgddoaaGreatDoor.N

namespace Go.Proofs.YtnpifgcgjgddoaaGreatDoor.N
open Go.RowKit
/-- How strongly a node's text holds together. -/
def hld (op : Int) : Nat := if op = 8 then 0 else if op = 7 then 1 else if op = 12 ∨ op = 13 then 2 else if op = 9 ∨ op = 10 ∨ op = 11 ∨ op = 14 ∨ op = 15 ∨ op = 16 ∨ op = 22 ∨ op = 23 then 3 else 4
/-- A token, or a blank. -/
abbrev It := Option Tk
def sgI (k : Int) : It := some ⟨k, 0, 0, 0, ⟨#[]⟩, 0, 0, 0, 0⟩
def nuI (k n : Int) : It := some ⟨k, n, 0, 0, ⟨#[]⟩, 0, 0, 0, 0⟩
def txI (k : Int) (s : ByteArray) : It := some ⟨k, 0, 0, 0, s, 0, 0, 0, 0⟩
abbrev Ent := Nat × List It
def partI (k : Nat) (e : Ent) : List It := if e.1 < k then [sgI 16] ++ (e.2 ++ [sgI 17]) else e.2
/-- The items of a node's text, its parts' given. -/
def nodeI (n : Nd) (a b : Ent) : List It :=
  if n.op = 1 then [sgI 29] else if n.op = 2 then [sgI 30] else if n.op = 3 then [sgI 18] else if n.op = 4 then [txI 2 n.tx]
  else if n.op = 5 then [some ⟨3, 0, 0, 0, ⟨#[]⟩, n.s0, n.s1, n.s2, n.s3⟩] else if n.op = 6 then [txI 1 n.tx]
  else if n.op = 7 then partI 1 a ++ ([none] ++ partI 2 b) else if n.op = 8 then partI 0 a ++ ([none, sgI 7, none] ++ partI 1 b)
  else if n.op = 9 then partI 3 a ++ [sgI 11] else if n.op = 10 then partI 3 a ++ [sgI 12] else if n.op = 11 then partI 3 a ++ [sgI 10]
  else if n.op = 12 then [sgI 8] ++ partI 2 a else if n.op = 13 then [sgI 9] ++ partI 2 a
  else if n.op = 14 then partI 3 a ++ [nuI 13 n.nn] else if n.op = 15 then partI 3 a ++ [nuI 14 n.nn] else if n.op = 16 then partI 3 a ++ [nuI 15 n.nn]
  else if n.op = 17 then [sgI 19, sgI 20] else if n.op = 18 then [sgI 19] ++ (partI 0 a ++ [sgI 20])
  else if n.op = 19 then [txI 21 n.tx, none] ++ (partI 0 a ++ [none, sgI 22]) else if n.op = 20 then [sgI 23, none] ++ (partI 0 a ++ [none, sgI 24])
  else if n.op = 21 then [sgI 25, none] ++ (partI 0 a ++ [none, sgI 26])
  else if n.op = 22 then partI 3 a ++ [none, sgI 27, none, txI 2 n.tx] else partI 3 a ++ [none, sgI 27, none, nuI 4 n.nn]
def tksI (l : List It) : List Tk := l.filterMap id
end Go.Proofs.YtnpifgcgjgddoaaGreatDoor.N

namespace Go.Proofs.YtnpifgcgjgddoaaGreatDoor.N
open Go.RowKit
theorem nodeI1 {n : Nd} (h : n.op = 1) (a b : Ent) : nodeI n a b = [sgI 29] := by
  unfold nodeI
  rw [if_pos h]
theorem nodeI2 {n : Nd} (h : n.op = 2) (a b : Ent) : nodeI n a b = [sgI 30] := by
  unfold nodeI
  rw [if_neg (by omega), if_pos h]
theorem nodeI3 {n : Nd} (h : n.op = 3) (a b : Ent) : nodeI n a b = [sgI 18] := by
  unfold nodeI
  rw [if_neg (by omega), if_neg (by omega), if_pos h]
theorem nodeI4 {n : Nd} (h : n.op = 4) (a b : Ent) : nodeI n a b = [txI 2 n.tx] := by
  unfold nodeI
  rw [if_neg (by omega), if_neg (by omega), if_neg (by omega), if_pos h]
theorem nodeI5 {n : Nd} (h : n.op = 5) (a b : Ent) : nodeI n a b = [some ⟨3, 0, 0, 0, ⟨#[]⟩, n.s0, n.s1, n.s2, n.s3⟩] := by
  unfold nodeI
  rw [if_neg (by omega), if_neg (by omega), if_neg (by omega), if_neg (by omega), if_pos h]
theorem nodeI6 {n : Nd} (h : n.op = 6) (a b : Ent) : nodeI n a b = [txI 1 n.tx] := by
  unfold nodeI
  rw [if_neg (by omega), if_neg (by omega), if_neg (by omega), if_neg (by omega), if_neg (by omega), if_pos h]
theorem nodeI7 {n : Nd} (h : n.op = 7) (a b : Ent) : nodeI n a b = partI 1 a ++ ([none] ++ partI 2 b) := by
  unfold nodeI
  rw [if_neg (by omega), if_neg (by omega), if_neg (by omega), if_neg (by omega), if_neg (by omega), if_neg (by omega), if_pos h]
theorem nodeI8 {n : Nd} (h : n.op = 8) (a b : Ent) : nodeI n a b = partI 0 a ++ ([none, sgI 7, none] ++ partI 1 b) := by
  unfold nodeI
  rw [if_neg (by omega), if_neg (by omega), if_neg (by omega), if_neg (by omega), if_neg (by omega), if_neg (by omega), if_neg (by omega), if_pos h]
theorem nodeI9 {n : Nd} (h : n.op = 9) (a b : Ent) : nodeI n a b = partI 3 a ++ [sgI 11] := by
  unfold nodeI
  rw [if_neg (by omega), if_neg (by omega), if_neg (by omega), if_neg (by omega), if_neg (by omega), if_neg (by omega), if_neg (by omega), if_neg (by omega), if_pos h]
theorem nodeI10 {n : Nd} (h : n.op = 10) (a b : Ent) : nodeI n a b = partI 3 a ++ [sgI 12] := by
  unfold nodeI
  rw [if_neg (by omega), if_neg (by omega), if_neg (by omega), if_neg (by omega), if_neg (by omega), if_neg (by omega), if_neg (by omega), if_neg (by omega), if_neg (by omega), if_pos h]
theorem nodeI11 {n : Nd} (h : n.op = 11) (a b : Ent) : nodeI n a b = partI 3 a ++ [sgI 10] := by
  unfold nodeI
  rw [if_neg (by omega), if_neg (by omega), if_neg (by omega), if_neg (by omega), if_neg (by omega), if_neg (by omega), if_neg (by omega), if_neg (by omega), if_neg (by omega), if_neg (by omega), if_pos h]
theorem nodeI12 {n : Nd} (h : n.op = 12) (a b : Ent) : nodeI n a b = [sgI 8] ++ partI 2 a := by
  unfold nodeI
  rw [if_neg (by omega), if_neg (by omega), if_neg (by omega), if_neg (by omega), if_neg (by omega), if_neg (by omega), if_neg (by omega), if_neg (by omega), if_neg (by omega), if_neg (by omega), if_neg (by omega), if_pos h]
theorem nodeI13 {n : Nd} (h : n.op = 13) (a b : Ent) : nodeI n a b = [sgI 9] ++ partI 2 a := by
  unfold nodeI
  rw [if_neg (by omega), if_neg (by omega), if_neg (by omega), if_neg (by omega), if_neg (by omega), if_neg (by omega), if_neg (by omega), if_neg (by omega), if_neg (by omega), if_neg (by omega), if_neg (by omega), if_neg (by omega), if_pos h]
theorem nodeI14 {n : Nd} (h : n.op = 14) (a b : Ent) : nodeI n a b = partI 3 a ++ [nuI 13 n.nn] := by
  unfold nodeI
  rw [if_neg (by omega), if_neg (by omega), if_neg (by omega), if_neg (by omega), if_neg (by omega), if_neg (by omega), if_neg (by omega), if_neg (by omega), if_neg (by omega), if_neg (by omega), if_neg (by omega), if_neg (by omega), if_neg (by omega), if_pos h]
theorem nodeI15 {n : Nd} (h : n.op = 15) (a b : Ent) : nodeI n a b = partI 3 a ++ [nuI 14 n.nn] := by
  unfold nodeI
  rw [if_neg (by omega), if_neg (by omega), if_neg (by omega), if_neg (by omega), if_neg (by omega), if_neg (by omega), if_neg (by omega), if_neg (by omega), if_neg (by omega), if_neg (by omega), if_neg (by omega), if_neg (by omega), if_neg (by omega), if_neg (by omega), if_pos h]
theorem nodeI16 {n : Nd} (h : n.op = 16) (a b : Ent) : nodeI n a b = partI 3 a ++ [nuI 15 n.nn] := by
  unfold nodeI
  rw [if_neg (by omega), if_neg (by omega), if_neg (by omega), if_neg (by omega), if_neg (by omega), if_neg (by omega), if_neg (by omega), if_neg (by omega), if_neg (by omega), if_neg (by omega), if_neg (by omega), if_neg (by omega), if_neg (by omega), if_neg (by omega), if_neg (by omega), if_pos h]
theorem nodeI17 {n : Nd} (h : n.op = 17) (a b : Ent) : nodeI n a b = [sgI 19, sgI 20] := by
  unfold nodeI
  rw [if_neg (by omega), if_neg (by omega), if_neg (by omega), if_neg (by omega), if_neg (by omega), if_neg (by omega), if_neg (by omega), if_neg (by omega), if_neg (by omega), if_neg (by omega), if_neg (by omega), if_neg (by omega), if_neg (by omega), if_neg (by omega), if_neg (by omega), if_neg (by omega), if_pos h]
theorem nodeI18 {n : Nd} (h : n.op = 18) (a b : Ent) : nodeI n a b = [sgI 19] ++ (partI 0 a ++ [sgI 20]) := by
  unfold nodeI
  rw [if_neg (by omega), if_neg (by omega), if_neg (by omega), if_neg (by omega), if_neg (by omega), if_neg (by omega), if_neg (by omega), if_neg (by omega), if_neg (by omega), if_neg (by omega), if_neg (by omega), if_neg (by omega), if_neg (by omega), if_neg (by omega), if_neg (by omega), if_neg (by omega), if_neg (by omega), if_pos h]
theorem nodeI19 {n : Nd} (h : n.op = 19) (a b : Ent) : nodeI n a b = [txI 21 n.tx, none] ++ (partI 0 a ++ [none, sgI 22]) := by
  unfold nodeI
  rw [if_neg (by omega), if_neg (by omega), if_neg (by omega), if_neg (by omega), if_neg (by omega), if_neg (by omega), if_neg (by omega), if_neg (by omega), if_neg (by omega), if_neg (by omega), if_neg (by omega), if_neg (by omega), if_neg (by omega), if_neg (by omega), if_neg (by omega), if_neg (by omega), if_neg (by omega), if_neg (by omega), if_pos h]
theorem nodeI20 {n : Nd} (h : n.op = 20) (a b : Ent) : nodeI n a b = [sgI 23, none] ++ (partI 0 a ++ [none, sgI 24]) := by
  unfold nodeI
  rw [if_neg (by omega), if_neg (by omega), if_neg (by omega), if_neg (by omega), if_neg (by omega), if_neg (by omega), if_neg (by omega), if_neg (by omega), if_neg (by omega), if_neg (by omega), if_neg (by omega), if_neg (by omega), if_neg (by omega), if_neg (by omega), if_neg (by omega), if_neg (by omega), if_neg (by omega), if_neg (by omega), if_neg (by omega), if_pos h]
theorem nodeI21 {n : Nd} (h : n.op = 21) (a b : Ent) : nodeI n a b = [sgI 25, none] ++ (partI 0 a ++ [none, sgI 26]) := by
  unfold nodeI
  rw [if_neg (by omega), if_neg (by omega), if_neg (by omega), if_neg (by omega), if_neg (by omega), if_neg (by omega), if_neg (by omega), if_neg (by omega), if_neg (by omega), if_neg (by omega), if_neg (by omega), if_neg (by omega), if_neg (by omega), if_neg (by omega), if_neg (by omega), if_neg (by omega), if_neg (by omega), if_neg (by omega), if_neg (by omega), if_neg (by omega), if_pos h]
theorem nodeI22 {n : Nd} (h : n.op = 22) (a b : Ent) : nodeI n a b = partI 3 a ++ [none, sgI 27, none, txI 2 n.tx] := by
  unfold nodeI
  rw [if_neg (by omega), if_neg (by omega), if_neg (by omega), if_neg (by omega), if_neg (by omega), if_neg (by omega), if_neg (by omega), if_neg (by omega), if_neg (by omega), if_neg (by omega), if_neg (by omega), if_neg (by omega), if_neg (by omega), if_neg (by omega), if_neg (by omega), if_neg (by omega), if_neg (by omega), if_neg (by omega), if_neg (by omega), if_neg (by omega), if_neg (by omega), if_pos h]
theorem nodeI23 {n : Nd} (h : n.op = 23) (a b : Ent) : nodeI n a b = partI 3 a ++ [none, sgI 27, none, nuI 4 n.nn] := by
  unfold nodeI
  rw [if_neg (by omega), if_neg (by omega), if_neg (by omega), if_neg (by omega), if_neg (by omega), if_neg (by omega), if_neg (by omega), if_neg (by omega), if_neg (by omega), if_neg (by omega), if_neg (by omega), if_neg (by omega), if_neg (by omega), if_neg (by omega), if_neg (by omega), if_neg (by omega), if_neg (by omega), if_neg (by omega), if_neg (by omega), if_neg (by omega), if_neg (by omega), if_neg (by omega)]
theorem al_fd {n : Nd} (h : T.alE n = 0) : 0 ≤ T.ar n.op ∧ T.txF n.op n.tx = true ∧ T.nuF n.op n.nn = true ∧ T.seF n.op n.s0 n.s1 n.s2 n.s3 = true := by
  unfold T.alE at h
  by_cases h1 : T.ar n.op < 0
  · rw [if_pos h1] at h; cases h
  · rw [if_neg h1] at h
    by_cases h2 : T.fdF n = true
    · unfold T.fdF at h2
      simp only [Bool.and_eq_true] at h2
      exact ⟨by omega, h2.1.1, h2.1.2, h2.2⟩
    · rw [if_neg h2] at h; cases h
theorem op_rng {n : Nd} (h : T.alE n = 0) : 1 ≤ n.op ∧ n.op ≤ 23 := by
  have := (al_fd h).1
  unfold T.ar at this
  split at this
  · omega
  · omega
theorem al_se {n : Nd} (h : T.alE n = 0) (ho : n.op ≠ 5) : n.s0 = 0 ∧ n.s1 = 0 ∧ n.s2 = 0 ∧ n.s3 = 0 := by
  have := (al_fd h).2.2.2
  unfold T.seF at this
  rw [if_neg ho] at this
  exact of_decide_eq_true this
theorem al_nu {n : Nd} (h : T.alE n = 0) (ho : ¬ (n.op = 14 ∨ n.op = 15 ∨ n.op = 16 ∨ n.op = 23)) : n.nn = 0 := by
  have := (al_fd h).2.2.1
  unfold T.nuF at this
  rw [if_neg ho] at this
  exact of_decide_eq_true this
theorem al_txn {n : Nd} (h : T.alE n = 0) (h4 : n.op ≠ 4) (h6 : n.op ≠ 6) (h19 : n.op ≠ 19) (h22 : n.op ≠ 22) : n.tx = ⟨#[]⟩ := by
  have := (al_fd h).2.1
  unfold T.txF at this
  rw [if_neg h4, if_neg h6, if_neg h19, if_neg h22] at this
  have := of_decide_eq_true this
  exact emp_of (by omega)
theorem nd_n {n : Nd} (h : T.alE n = 0) (ho : n.op = 14 ∨ n.op = 15 ∨ n.op = 16 ∨ n.op = 23) : n = ⟨n.op, n.nn, ⟨#[]⟩, 0, 0, 0, 0⟩ ∧ 0 ≤ n.nn ∧ n.nn ≤ 50 := by
  obtain ⟨a, b, c, d⟩ := al_se h (by omega)
  have f := al_txn h (by omega) (by omega) (by omega) (by omega)
  have g := (al_fd h).2.2.1
  unfold T.nuF at g
  rw [if_pos ho] at g
  have g := of_decide_eq_true g
  refine ⟨?_, g⟩
  clear g
  obtain ⟨op, nn, tx, s0, s1, s2, s3⟩ := n
  dsimp only at a b c d f ⊢
  subst a b c d f
  rfl
end Go.Proofs.YtnpifgcgjgddoaaGreatDoor.N

namespace Go.Proofs.YtnpifgcgjgddoaaGreatDoor.N
open Go.RowKit
theorem ck_len {L : List Nd} (h : (T.ck L).2 = 0) : L.length ≤ 2048 := by
  unfold T.ck at h
  by_cases q : 2048 < L.length
  · rw [if_pos q] at h; exact absurd h (by decide)
  · omega
end Go.Proofs.YtnpifgcgjgddoaaGreatDoor.N

namespace Go.Proofs.YtnpifgcgjgddoaaGreatDoor.T
def atI (k : Nat) (st : List Pt) : Nat → Nat
  | 0 => k
  | i + 1 => match st[i]? with
    | some x => x.1
    | none => 0
def hI (L : List Nd) (op : Int) (a : Nat) (st : List Pt) : Nat → Nat
  | 0 => 0
  | i + 1 => match st[i]? with
    | some x => max (hI L op a st i) (if i + 1 = a ∧ a = 2 ∧ opAt L x.2.1 = op then x.2.2 - 1 else x.2.2)
    | none => hI L op a st i
theorem mk_pos (L : List Nd) (k : Nat) (op : Int) (st : List Pt) : 1 ≤ (mk L k op st).2.2 := by
  unfold mk
  split
  · exact Nat.le_refl _
  · split
    · split
      · show 1 ≤ max 1 _; omega
      · exact Nat.le_refl _
    · split
      · show 1 ≤ max (max 1 _) _; omega
      · exact Nat.le_refl _
theorem run_pos {L : List Nd} {k : Nat} (hk : k ≤ L.length) (h : ∀ j, j < k → er L j = 0) : ∀ x ∈ run L k, 1 ≤ x.2.2 := fun x hx => by
  obtain ⟨_, _, _, e⟩ := run_bd hk h x hx
  rw [e]
  exact mk_pos _ _ _ _
theorem chn_at (L : List Nd) (k : Nat) (st : List Pt) (h : Chn L k st) : ∀ i, i ≤ st.length → Chn L (atI k st i) (st.drop i) := by
  intro i
  induction i with
  | zero => intro _; exact h
  | succ i ih =>
    intro hi
    have c := ih (by omega)
    rw [List.drop_eq_getElem_cons (by omega)] at c
    show Chn L (match st[i]? with
      | some x => x.1
      | none => 0) _
    rw [List.getElem?_eq_getElem (by omega)]
    exact c.2.2.2
theorem pt_at (L : List Nd) (k : Nat) (op : Int) (st : List Pt) (h : arN op ≤ st.length) (hp : ∀ x ∈ st, 1 ≤ x.2.2) : mk L k op st = (atI k st (arN op), k, hI L op (arN op) st (arN op) + 1) := by
  have h2 := arN_le op
  unfold mk
  by_cases a0 : arN op = 0
  · rw [if_pos a0, a0]; rfl
  rw [if_neg a0]
  by_cases a1 : arN op = 1
  · rw [if_pos a1]
    rw [a1] at h ⊢
    cases st with
    | nil => simp at h
    | cons x r => simp [atI, hI]
  · rw [if_neg a1]
    have e2 : arN op = 2 := by omega
    rw [e2] at h ⊢
    cases st with
    | nil => simp at h
    | cons y r => cases r with
      | nil => simp at h
      | cons x r =>
        have hx := hp x (by simp)
        simp only [atI, hI, List.getElem?_cons_zero, List.getElem?_cons_succ]
        by_cases ho : opAt L x.2.1 = op
        · simp [ho]; omega
        · simp [ho]; omega
theorem hI_bd (L : List Nd) (op : Int) (a : Nat) (st : List Pt) (h : ∀ x ∈ st, x.2.2 ≤ 60) : ∀ i, hI L op a st i ≤ 60 := by
  intro i
  induction i with
  | zero => exact Nat.zero_le _
  | succ i ih =>
    rw [hI]
    split
    · next x hx =>
      have := h x (List.mem_of_getElem? hx)
      split <;> omega
    · exact ih
end Go.Proofs.YtnpifgcgjgddoaaGreatDoor.T

namespace Go.Proofs.YtnpifgcgjgddoaaGreatDoor.N
open Go.RowKit
theorem ar_ops {n : Nd} (h : T.alE n = 0) : (T.arN n.op = 0 ∧ (n.op = 1 ∨ n.op = 2 ∨ n.op = 3 ∨ n.op = 4 ∨ n.op = 5 ∨ n.op = 6 ∨ n.op = 17)) ∨ (T.arN n.op = 2 ∧ (n.op = 7 ∨ n.op = 8)) ∨ (T.arN n.op = 1 ∧ (n.op = 9 ∨ n.op = 10 ∨ n.op = 11 ∨ n.op = 12 ∨ n.op = 13 ∨ n.op = 14 ∨ n.op = 15 ∨ n.op = 16 ∨ n.op = 18 ∨ n.op = 19 ∨ n.op = 20 ∨ n.op = 21 ∨ n.op = 22 ∨ n.op = 23)) := by
  have hr := op_rng h
  unfold T.arN T.ar
  rw [if_neg (by omega)]
  by_cases h1 : n.op ≤ 6 ∨ n.op = 17
  · rw [if_pos h1]; exact .inl ⟨rfl, by omega⟩
  · rw [if_neg h1]
    by_cases h2 : n.op = 7 ∨ n.op = 8
    · rw [if_pos h2]; exact .inr (.inl ⟨rfl, h2⟩)
    · rw [if_neg h2]; exact .inr (.inr ⟨rfl, by omega⟩)
/-- One node more on the stack of texts. -/
def e0 : Ent := (4, [])
def stepI (n : Nd) (st : List Ent) : List Ent := (hld n.op, nodeI n (if T.arN n.op = 2 then (st[1]?).getD e0 else (st[0]?).getD e0) ((st[0]?).getD e0)) :: st.drop (T.arN n.op)
def shK (L : List Nd) : Nat → List Ent
  | 0 => []
  | k + 1 => match L[k]? with
    | some n => stepI n (shK L k)
    | none => shK L k
/-- The items of a whole pattern. -/
def shI (L : List Nd) : List It := ((shK L L.length)[0]?.getD e0).2
theorem shK_succ {L : List Nd} {k : Nat} {n : Nd} (h : L[k]? = some n) : shK L (k + 1) = stepI n (shK L k) := by
  rw [shK, h]
end Go.Proofs.YtnpifgcgjgddoaaGreatDoor.N

namespace Go.Proofs.YtnpifgcgjgddoaaGreatDoor.N
open Go.RowKit
def itX (x : It) : List UInt8 := match x with
  | none => [32]
  | some t => (tkX t).data.toList
def itT (l : List It) : List UInt8 := l.flatMap itX
theorem itT_app (a b : List It) : itT (a ++ b) = itT a ++ itT b := List.flatMap_append
theorem itT_cons (x : It) (l : List It) : itT (x :: l) = itX x ++ itT l := rfl
/-- May one token's text stand right behind another one's? -/
def pqK (a b : Int) : Bool := a == 16 || a == 8 || a == 9 || (a == 19 && !(b == 22) && !(b == 24) && !(b == 26)) || b == 17 || b == 20 || (decide (10 ≤ b) && decide (b ≤ 15))
def okI : List It → Prop
  | [] => True
  | none :: r => okI r
  | some t :: r => (∀ u, r.head? = some (some u) → pqK t.kd u.kd = true) ∧ okI r
theorem okI_app {a b : List It} (ha : okI a) (hb : okI b) (hj : ∀ t u, a.getLast? = some (some t) → b.head? = some (some u) → pqK t.kd u.kd = true) : okI (a ++ b) := by
  induction a with
  | nil => exact hb
  | cons x r ih =>
    have hj2 : ∀ t u, r.getLast? = some (some t) → b.head? = some (some u) → pqK t.kd u.kd = true := fun t u h1 h2 => hj t u (by rw [List.getLast?_cons, h1]; rfl) h2
    cases x with
    | none => exact ih ha hj2
    | some t =>
      refine ⟨fun u hu => ?_, ih ha.2 hj2⟩
      cases r with
      | nil => exact hj t u rfl hu
      | cons y r => exact ha.1 u hu
end Go.Proofs.YtnpifgcgjgddoaaGreatDoor.N

namespace Go.Proofs.YtnpifgcgjgddoaaGreatDoor.N
open Go.RowKit
def hdK (k : Int) : Bool := bgK k || k == 1
/-- A text that may stand as a part. -/
structure ShE (x : List It) : Prop where
  ok : okI x
  hd : ∃ t, x.head? = some (some t) ∧ hdK t.kd = true
  ls : ∃ t, x.getLast? = some (some t)
  rt : ∀ t ∈ tksI x, Rgt t
/-- The words of a node's set are words. -/
structure NdW (n : Nd) : Prop where
  a : 0 ≤ n.s0 ∧ n.s0 < 18446744073709551616
  b : 0 ≤ n.s1 ∧ n.s1 < 18446744073709551616
  c : 0 ≤ n.s2 ∧ n.s2 < 18446744073709551616
  d : 0 ≤ n.s3 ∧ n.s3 < 18446744073709551616
theorem mem_tks {t : Tk} {l : List It} : t ∈ tksI l ↔ some t ∈ l := by
  unfold tksI
  rw [List.mem_filterMap]
  exact ⟨fun ⟨x, h1, h2⟩ => by rw [show x = some t from h2] at h1; exact h1, fun h => ⟨some t, h, rfl⟩⟩
theorem rg_sg {k : Int} (h : sgK k = true) (h0 : ¬ k = 0) (h1 : ¬ (k = 13 ∨ k = 14 ∨ k = 15)) (h2 : ¬ k = 21) : Rgt ⟨k, 0, 0, 0, ⟨#[]⟩, 0, 0, 0, 0⟩ := Rgt.plain (ri_sig h h0 h1 h2) (by omega)
theorem rg_name {s : ByteArray} (h : isNm s = true) : Rgt ⟨1, 0, 0, 0, s, 0, 0, 0, 0⟩ := Rgt.plain (ri_name h) (by omega)
theorem rg_grp {s : ByteArray} (h : s = ⟨#[]⟩ ∨ isNm s = true) : Rgt ⟨21, 0, 0, 0, s, 0, 0, 0, 0⟩ := by
  rcases h with rfl | h
  · exact Rgt.plain ri_grp0 (by omega)
  · exact Rgt.plain (ri_grp h) (by omega)
theorem rg_text {s : ByteArray} (h : s.size ≤ 255) : Rgt ⟨2, 0, 0, 0, s, 0, 0, 0, 0⟩ := by
  refine Rgt.plain ?_ (by omega)
  unfold riF txF nbF seF gtK
  simp
  omega
theorem rg_set {a b c d : Int} (ha : 0 ≤ a ∧ a < 18446744073709551616) (hb : 0 ≤ b ∧ b < 18446744073709551616) (hc : 0 ≤ c ∧ c < 18446744073709551616) (hd : 0 ≤ d ∧ d < 18446744073709551616) : Rgt ⟨3, 0, 0, 0, ⟨#[]⟩, a, b, c, d⟩ := by
  refine ⟨?_, ⟨by show (0 : Int) < _; omega, ha.1, ha.2, hb, hc, hd⟩⟩
  have em : ((⟨#[]⟩ : ByteArray).toList == []) = true := by rw [ByteArray.toList_eq]; rfl
  unfold riF txF nbF seF gtK
  simp []
theorem rg_num {k n : Int} (hk : k = 4 ∨ k = 13 ∨ k = 14 ∨ k = 15) (h0 : 0 ≤ n) (h1 : n ≤ 50) : Rgt ⟨k, n, 0, 0, ⟨#[]⟩, 0, 0, 0, 0⟩ := by
  refine Rgt.plain ?_ (by omega)
  have em : ((⟨#[]⟩ : ByteArray).toList == []) = true := by rw [ByteArray.toList_eq]; rfl
  unfold riF txF nbF seF gtK
  rcases hk with rfl | rfl | rfl | rfl <;> simp [] <;> omega
theorem nm_of {s : ByteArray} (h : T.nmB s = true) : isNm s = true := by
  have h : T.NmP s := by unfold T.nmB at h; exact @of_decide_eq_true _ (T.decNm _) h
  obtain ⟨h1, h2, h3, h4⟩ := h
  have hc : ∀ (j : Nat) (q : j < s.size), chr s j = (s[j].toNat : Int) := fun j q => chr_in q
  have hn : ∀ j, j < s.size → nmB (chr s j) = true := fun j q => by
    have := h4 j q
    rw [← hc j q] at this
    unfold T.nmC T.dgB T.ltB at this
    unfold nmB hdB dgB
    simp only [Bool.or_eq_true, Bool.and_eq_true, decide_eq_true_eq, beq_iff_eq] at this ⊢
    omega
  have hh : hdB (chr s 0) = true := by
    have a := h4 0 h1
    have b := h3 h1
    rw [← hc 0 h1] at a b
    unfold T.nmC T.ltB at a
    rw [b] at a
    unfold hdB
    simp only [Bool.or_eq_true, Bool.and_eq_true, decide_eq_true_eq, beq_iff_eq, Bool.false_or] at a ⊢
    omega
  have he : spN nmB s 0 = s.size := spN_eq rfl (Nat.zero_le _) (fun k _ q => hn k q) (by rw [chr_out (by omega)]; rfl)
  unfold isNm
  rw [decide_eq_true h1, decide_eq_true h2, hh, he]
  simp
theorem she_leaf {t : Tk} (h : hdK t.kd = true) (hr : Rgt t) : ShE [some t] :=
  ⟨⟨(fun u hu => by cases hu), trivial⟩, ⟨t, rfl, h⟩, ⟨t, rfl⟩, fun u hu => by
    rw [mem_tks, List.mem_singleton] at hu
    cases hu
    exact hr⟩
theorem she_suf {x : List It} (h : ShE x) {u : Tk} (hu : Rgt u) (hk : pqK 0 u.kd = true) : ShE (x ++ [some u]) := by
  obtain ⟨t, ht, hk1⟩ := h.hd
  refine ⟨okI_app h.ok ⟨(fun v hv => by cases hv), trivial⟩ (fun a b _ hb => ?_), ⟨t, by rw [List.head?_append, ht]; rfl, hk1⟩, ⟨u, by rw [List.getLast?_append]; rfl⟩, fun v hv => ?_⟩
  · cases hb
    unfold pqK at hk ⊢
    simp only [Bool.or_eq_true, Bool.and_eq_true, beq_iff_eq, decide_eq_true_eq, Bool.not_eq_true', beq_eq_false_iff_ne] at hk ⊢
    omega
  · rw [mem_tks, List.mem_append, List.mem_singleton] at hv
    rcases hv with q | q
    · exact h.rt v (mem_tks.2 q)
    · cases q; exact hu
/-- Two texts with a blank at least on either side of what stands between. -/
theorem she_two {x y m : List It} (h : ShE x) (g : ShE y) (hm : okI ([none] ++ m)) (hml : ∀ t, ([none] ++ m).getLast? ≠ some (some t)) (hr : ∀ t ∈ tksI m, Rgt t) : ShE (x ++ ([none] ++ m ++ y)) := by
  obtain ⟨t, ht, hk1⟩ := h.hd
  obtain ⟨l, hl⟩ := g.ls
  refine ⟨okI_app h.ok (okI_app hm g.ok (fun a b ha _ => absurd ha (hml a))) (fun a b _ hb => by cases hb), ⟨t, by rw [List.head?_append, ht]; rfl, hk1⟩, ⟨l, ?_⟩, fun v hv => ?_⟩
  · rw [List.getLast?_append, List.getLast?_append, hl]
    rfl
  · rw [mem_tks, List.mem_append, List.mem_append, List.mem_append] at hv
    rcases hv with q | (q | q) | q
    · exact h.rt v (mem_tks.2 q)
    · simp at q
    · exact hr v (mem_tks.2 q)
    · exact g.rt v (mem_tks.2 q)
theorem she_suf2 {x : List It} (h : ShE x) {u : Tk} (hu : Rgt u) : ShE (x ++ [none, sgI 27, none, some u]) := by
  obtain ⟨t, ht, hk1⟩ := h.hd
  refine ⟨okI_app h.ok ⟨(fun v hv => by cases hv), (fun v hv => by cases hv), trivial⟩ (fun a b _ hb => by cases hb), ⟨t, by rw [List.head?_append, ht]; rfl, hk1⟩, ⟨u, by rw [List.getLast?_append]; rfl⟩, fun v hv => ?_⟩
  rw [mem_tks, List.mem_append] at hv
  rcases hv with q | q
  · exact h.rt v (mem_tks.2 q)
  · simp only [List.mem_cons, List.not_mem_nil, or_false] at q
    rcases q with q | q | q | q
    · cases q
    · cases q; exact rg_sg (by decide) (by decide) (by decide) (by decide)
    · cases q
    · cases q; exact hu
/-- A sign or a bracket ahead. -/
theorem she_pre {x : List It} (h : ShE x) {o : Tk} (ho : Rgt o) (hk : hdK o.kd = true) (hp : o.kd = 16 ∨ o.kd = 8 ∨ o.kd = 9 ∨ o.kd = 19) : ShE ([some o] ++ x) := by
  obtain ⟨t, ht, hk1⟩ := h.hd
  obtain ⟨l, hl⟩ := h.ls
  refine ⟨okI_app ⟨(fun v hv => by cases hv), trivial⟩ h.ok (fun a b ha hb => ?_), ⟨o, rfl, hk⟩, ⟨l, by rw [List.getLast?_append, hl]; rfl⟩, fun v hv => ?_⟩
  · cases ha
    rw [ht] at hb
    cases hb
    have hb3 : t.kd ≠ 22 ∧ t.kd ≠ 24 ∧ t.kd ≠ 26 := by
      unfold hdK bgK at hk1
      simp only [Bool.or_eq_true, beq_iff_eq] at hk1
      omega
    unfold pqK
    simp only [Bool.or_eq_true, Bool.and_eq_true, beq_iff_eq, decide_eq_true_eq, Bool.not_eq_true', beq_eq_false_iff_ne]
    omega
  · rw [mem_tks, List.mem_append, List.mem_singleton] at hv
    rcases hv with q | q
    · cases q; exact ho
    · exact h.rt v (mem_tks.2 q)
/-- A bracket and a blank ahead. -/
theorem she_preb {x : List It} (h : ShE x) {o : Tk} (ho : Rgt o) (hk : hdK o.kd = true) : ShE ([some o, none] ++ x) := by
  obtain ⟨l, hl⟩ := h.ls
  refine ⟨okI_app ⟨(fun v hv => by cases hv), trivial⟩ h.ok (fun a b ha hb => by cases ha), ⟨o, rfl, hk⟩, ⟨l, by rw [List.getLast?_append, hl]; rfl⟩, fun v hv => ?_⟩
  rw [mem_tks, List.mem_append] at hv
  rcases hv with q | q
  · simp only [List.mem_cons, List.not_mem_nil, or_false] at q
    rcases q with q | q
    · cases q; exact ho
    · cases q
  · exact h.rt v (mem_tks.2 q)
/-- A blank and a bracket behind. -/
theorem she_endb {x : List It} (h : ShE x) {c : Tk} (hc : Rgt c) : ShE (x ++ [none, some c]) := by
  obtain ⟨t, ht, hk1⟩ := h.hd
  refine ⟨okI_app h.ok ⟨(fun v hv => by cases hv), trivial⟩ (fun a b _ hb => by cases hb), ⟨t, by rw [List.head?_append, ht]; rfl, hk1⟩, ⟨c, by rw [List.getLast?_append]; rfl⟩, fun v hv => ?_⟩
  rw [mem_tks, List.mem_append] at hv
  rcases hv with q | q
  · exact h.rt v (mem_tks.2 q)
  · simp only [List.mem_cons, List.not_mem_nil, or_false] at q
    rcases q with q | q
    · cases q
    · cases q; exact hc
theorem she_part {x : Ent} (h : ShE x.2) (k : Nat) : ShE (partI k x) := by
  unfold partI
  split
  · exact she_pre (she_suf h (u := ⟨17, 0, 0, 0, ⟨#[]⟩, 0, 0, 0, 0⟩) (rg_sg (by decide) (by decide) (by decide) (by decide)) rfl) (rg_sg (by decide) (by decide) (by decide) (by decide)) rfl (.inl rfl)
  · exact h
end Go.Proofs.YtnpifgcgjgddoaaGreatDoor.N

namespace Go.Proofs.YtnpifgcgjgddoaaGreatDoor.N
open Go.RowKit
theorem tx4 {n : Nd} (h : T.alE n = 0) (ho : n.op = 4) : 1 ≤ n.tx.size ∧ n.tx.size ≤ 255 := by
  have := (al_fd h).2.1
  unfold T.txF at this
  rw [if_pos ho] at this
  exact of_decide_eq_true this
theorem tx6 {n : Nd} (h : T.alE n = 0) (ho : n.op = 6) : isNm n.tx = true := by
  have := (al_fd h).2.1
  unfold T.txF at this
  rw [if_neg (by omega), if_pos ho] at this
  exact nm_of this
theorem tx19 {n : Nd} (h : T.alE n = 0) (ho : n.op = 19) : n.tx = ⟨#[]⟩ ∨ isNm n.tx = true := by
  have := (al_fd h).2.1
  unfold T.txF at this
  rw [if_neg (by omega), if_neg (by omega), if_pos ho, Bool.or_eq_true] at this
  rcases this with q | q
  · exact .inl (emp_of (by have := of_decide_eq_true q; omega))
  · exact .inr (nm_of q)
theorem tx22 {n : Nd} (h : T.alE n = 0) (ho : n.op = 22) : n.tx.size ≤ 255 := by
  have := (al_fd h).2.1
  unfold T.txF at this
  rw [if_neg (by omega), if_neg (by omega), if_neg (by omega), if_pos ho] at this
  unfold T.tmB at this
  split at this
  · assumption
  · cases this
theorem she_node {n : Nd} (h : T.alE n = 0) (hw : NdW n) (a b : Ent) (ha : 1 ≤ T.arN n.op → ShE a.2) (hb : T.arN n.op = 2 → ShE b.2) : ShE (nodeI n a b) := by
  rcases ar_ops h with ⟨z, o⟩ | ⟨z, o⟩ | ⟨z, o⟩
  · rcases o with o | o | o | o | o | o | o
    · rw [nodeI1 o]
      exact she_leaf (t := ⟨29, 0, 0, 0, ⟨#[]⟩, 0, 0, 0, 0⟩) rfl (rg_sg (by decide) (by decide) (by decide) (by decide))
    · rw [nodeI2 o]
      exact she_leaf (t := ⟨30, 0, 0, 0, ⟨#[]⟩, 0, 0, 0, 0⟩) rfl (rg_sg (by decide) (by decide) (by decide) (by decide))
    · rw [nodeI3 o]
      exact she_leaf (t := ⟨18, 0, 0, 0, ⟨#[]⟩, 0, 0, 0, 0⟩) rfl (rg_sg (by decide) (by decide) (by decide) (by decide))
    · rw [nodeI4 o]
      exact she_leaf (t := ⟨2, 0, 0, 0, n.tx, 0, 0, 0, 0⟩) rfl (rg_text (by have := tx4 h o; omega))
    · rw [nodeI5 o]
      exact she_leaf (t := ⟨3, 0, 0, 0, ⟨#[]⟩, n.s0, n.s1, n.s2, n.s3⟩) rfl (rg_set hw.a hw.b hw.c hw.d)
    · rw [nodeI6 o]
      exact she_leaf (t := ⟨1, 0, 0, 0, n.tx, 0, 0, 0, 0⟩) rfl (rg_name (tx6 h o))
    · rw [nodeI17 o]
      exact she_suf (x := [sgI 19]) (she_leaf (t := ⟨19, 0, 0, 0, ⟨#[]⟩, 0, 0, 0, 0⟩) rfl (rg_sg (by decide) (by decide) (by decide) (by decide))) (u := ⟨20, 0, 0, 0, ⟨#[]⟩, 0, 0, 0, 0⟩) (rg_sg (by decide) (by decide) (by decide) (by decide)) rfl
  · rcases o with o | o
    · rw [nodeI7 o]
      exact she_two (m := []) (she_part (ha (by omega)) 1) (she_part (hb (by omega)) 2) trivial (fun t q => by cases q) (fun t q => by cases q)
    · rw [nodeI8 o]
      exact she_two (m := [sgI 7, none]) (she_part (ha (by omega)) 0) (she_part (hb (by omega)) 1) ⟨(fun v q => by cases q), trivial⟩ (fun t q => by cases q) (fun t q => by rw [List.mem_singleton.1 q]; exact (rg_sg (by decide) (by decide) (by decide) (by decide)))
  · rcases o with o | o | o | o | o | o | o | o | o | o | o | o | o | o
    · rw [nodeI9 o]
      exact she_suf (she_part (ha (by omega)) 3) (u := ⟨11, 0, 0, 0, ⟨#[]⟩, 0, 0, 0, 0⟩) (rg_sg (by decide) (by decide) (by decide) (by decide)) rfl
    · rw [nodeI10 o]
      exact she_suf (she_part (ha (by omega)) 3) (u := ⟨12, 0, 0, 0, ⟨#[]⟩, 0, 0, 0, 0⟩) (rg_sg (by decide) (by decide) (by decide) (by decide)) rfl
    · rw [nodeI11 o]
      exact she_suf (she_part (ha (by omega)) 3) (u := ⟨10, 0, 0, 0, ⟨#[]⟩, 0, 0, 0, 0⟩) (rg_sg (by decide) (by decide) (by decide) (by decide)) rfl
    · rw [nodeI12 o]
      exact she_pre (she_part (ha (by omega)) 2) (o := ⟨8, 0, 0, 0, ⟨#[]⟩, 0, 0, 0, 0⟩) (rg_sg (by decide) (by decide) (by decide) (by decide)) rfl (by decide)
    · rw [nodeI13 o]
      exact she_pre (she_part (ha (by omega)) 2) (o := ⟨9, 0, 0, 0, ⟨#[]⟩, 0, 0, 0, 0⟩) (rg_sg (by decide) (by decide) (by decide) (by decide)) rfl (by decide)
    · rw [nodeI14 o]
      exact she_suf (she_part (ha (by omega)) 3) (u := ⟨13, n.nn, 0, 0, ⟨#[]⟩, 0, 0, 0, 0⟩) (rg_num (by omega) (nd_n h (by omega)).2.1 (nd_n h (by omega)).2.2) rfl
    · rw [nodeI15 o]
      exact she_suf (she_part (ha (by omega)) 3) (u := ⟨14, n.nn, 0, 0, ⟨#[]⟩, 0, 0, 0, 0⟩) (rg_num (by omega) (nd_n h (by omega)).2.1 (nd_n h (by omega)).2.2) rfl
    · rw [nodeI16 o]
      exact she_suf (she_part (ha (by omega)) 3) (u := ⟨15, n.nn, 0, 0, ⟨#[]⟩, 0, 0, 0, 0⟩) (rg_num (by omega) (nd_n h (by omega)).2.1 (nd_n h (by omega)).2.2) rfl
    · rw [nodeI18 o]
      exact she_pre (she_suf (she_part (ha (by omega)) 0) (u := ⟨20, 0, 0, 0, ⟨#[]⟩, 0, 0, 0, 0⟩) (rg_sg (by decide) (by decide) (by decide) (by decide)) rfl) (o := ⟨19, 0, 0, 0, ⟨#[]⟩, 0, 0, 0, 0⟩) (rg_sg (by decide) (by decide) (by decide) (by decide)) rfl (by decide)
    · rw [nodeI19 o]
      exact she_preb (she_endb (she_part (ha (by omega)) 0) (c := ⟨22, 0, 0, 0, ⟨#[]⟩, 0, 0, 0, 0⟩) (rg_sg (by decide) (by decide) (by decide) (by decide))) (o := ⟨21, 0, 0, 0, n.tx, 0, 0, 0, 0⟩) (rg_grp (tx19 h o)) rfl
    · rw [nodeI20 o]
      exact she_preb (she_endb (she_part (ha (by omega)) 0) (c := ⟨24, 0, 0, 0, ⟨#[]⟩, 0, 0, 0, 0⟩) (rg_sg (by decide) (by decide) (by decide) (by decide))) (o := ⟨23, 0, 0, 0, ⟨#[]⟩, 0, 0, 0, 0⟩) (rg_sg (by decide) (by decide) (by decide) (by decide)) rfl
    · rw [nodeI21 o]
      exact she_preb (she_endb (she_part (ha (by omega)) 0) (c := ⟨26, 0, 0, 0, ⟨#[]⟩, 0, 0, 0, 0⟩) (rg_sg (by decide) (by decide) (by decide) (by decide))) (o := ⟨25, 0, 0, 0, ⟨#[]⟩, 0, 0, 0, 0⟩) (rg_sg (by decide) (by decide) (by decide) (by decide)) rfl
    · rw [nodeI22 o]
      exact she_suf2 (she_part (ha (by omega)) 3) (u := ⟨2, 0, 0, 0, n.tx, 0, 0, 0, 0⟩) (rg_text (tx22 h o))
    · rw [nodeI23 o]
      exact she_suf2 (she_part (ha (by omega)) 3) (u := ⟨4, n.nn, 0, 0, ⟨#[]⟩, 0, 0, 0, 0⟩) (rg_num (by omega) (nd_n h (by omega)).2.1 (nd_n h (by omega)).2.2)
theorem shK_len {L : List Nd} : ∀ k, k ≤ L.length → (shK L k).length = (T.run L k).length := by
  intro k
  induction k with
  | zero => intro _; rfl
  | succ k ih =>
    intro hk
    have hn : L[k]? = some L[k] := List.getElem?_eq_getElem (by omega)
    rw [shK_succ hn, T.run_succ, T.op_of hn]
    unfold stepI
    rw [List.length_cons, List.length_cons, List.length_drop, List.length_drop, ih (by omega)]
theorem shK_she {L : List Nd} (he : ∀ j, j < L.length → T.er L j = 0) (hw : ∀ n ∈ L, NdW n) : ∀ k, k ≤ L.length → ∀ x ∈ shK L k, ShE x.2 := by
  intro k
  induction k with
  | zero => intro _ x hx; cases hx
  | succ k ih =>
    intro hk x hx
    have hn : L[k]? = some L[k] := List.getElem?_eq_getElem (by omega)
    have hm : L[k] ∈ L := List.getElem_mem (by omega)
    generalize L[k] = n at hn hm
    have hok := T.er_ok hn (he k (by omega))
    have har := hok.ar
    rw [← shK_len k (by omega)] at har
    have i := ih (by omega)
    rw [shK_succ hn] at hx
    have key : ∀ j, j < (shK L k).length → ShE ((shK L k)[j]?.getD e0).2 := fun j hj => by
      rw [List.getElem?_eq_getElem hj]
      exact i _ (List.getElem_mem hj)
    unfold stepI at hx
    rcases List.mem_cons.1 hx with rfl | hx
    · refine she_node hok.al (hw n hm) _ _ (fun h1 => ?_) (fun h2 => key 0 (by omega))
      by_cases h2 : T.arN n.op = 2
      · rw [if_pos h2]; exact key 1 (by omega)
      · rw [if_neg h2]; exact key 0 (by omega)
    · exact i x (List.mem_of_mem_drop hx)
theorem sh_she {L : List Nd} (hr : T.Rt L) (hw : ∀ n ∈ L, NdW n) : ShE (shI L) := by
  have h1 := hr.one
  rw [← shK_len L.length (Nat.le_refl _)] at h1
  unfold shI
  rw [List.getElem?_eq_getElem (by omega)]
  exact shK_she hr.each hw L.length (Nat.le_refl _) _ (List.getElem_mem (by omega))
end Go.Proofs.YtnpifgcgjgddoaaGreatDoor.N

namespace Go.Proofs.YtnpifgcgjgddoaaGreatDoor.N
open Go.RowKit
/-- What stands behind the word. -/
def agT (n : Nd) : Option Tk :=
  if n.op = 4 ∨ n.op = 22 then some ⟨2, 0, 0, 0, n.tx, 0, 0, 0, 0⟩ else if n.op = 5 then some ⟨3, 0, 0, 0, ⟨#[]⟩, n.s0, n.s1, n.s2, n.s3⟩
  else if n.op = 6 then some ⟨1, 0, 0, 0, n.tx, 0, 0, 0, 0⟩ else if n.op = 19 then (if n.tx.size = 0 then none else some ⟨1, 0, 0, 0, n.tx, 0, 0, 0, 0⟩)
  else if n.op = 14 ∨ n.op = 15 ∨ n.op = 16 ∨ n.op = 23 then some ⟨4, n.nn, 0, 0, ⟨#[]⟩, 0, 0, 0, 0⟩ else none
end Go.Proofs.YtnpifgcgjgddoaaGreatDoor.N

namespace Go.Proofs.YtnpifgcgjgddoaaGreatDoor.N
open Go.RowKit
/-- The text of the part that ends with a node. -/
def enX (L : List Nd) (k : Nat) : Ent := (shK L (k + 1))[0]?.getD e0
theorem en_stack {L : List Nd} : ∀ k, k ≤ L.length → ∀ (i : Nat) (p : T.Pt), (T.run L k)[i]? = some p → (shK L k)[i]? = some (enX L p.2.1) := by
  intro k
  induction k with
  | zero => intro _ i p h; simp [T.run] at h
  | succ k ih =>
    intro hk i p h
    have hn : L[k]? = some L[k] := List.getElem?_eq_getElem (by omega)
    rw [T.run_succ] at h
    cases i with
    | zero =>
      have hp : T.pt L k = p := by simpa using h
      rw [← hp, show (T.pt L k).2.1 = k from T.mk_last L k _ _]
      unfold enX
      rw [shK_succ hn]
      rfl
    | succ i =>
      rw [List.getElem?_cons_succ, List.getElem?_drop, T.op_of hn] at h
      rw [shK_succ hn]
      unfold stepI
      rw [List.getElem?_cons_succ, List.getElem?_drop]
      exact ih (by omega) _ _ h
/-- Where the parts of a node end: the only or the second one right ahead of it, the first one ahead of that. -/
theorem run_two {L : List Nd} {k : Nat} (hk : k ≤ L.length) (he : ∀ j, j < k → T.er L j = 0) : (∀ p, (T.run L k)[0]? = some p → p = T.pt L (k - 1) ∧ p.2.1 = k - 1 ∧ 1 ≤ k) ∧ (∀ p, (T.run L k)[1]? = some p → p = T.pt L ((T.pt L (k - 1)).1 - 1) ∧ p.2.1 = (T.pt L (k - 1)).1 - 1 ∧ 1 ≤ (T.pt L (k - 1)).1) := by
  have h := T.chn_run L k hk he
  cases hr : T.run L k with
  | nil => exact ⟨(fun p q => by cases q), (fun p q => by cases q)⟩
  | cons y r =>
    rw [hr] at h
    obtain ⟨h1, h2, h3, h4⟩ := h
    have hy : y.2.1 = k - 1 := by omega
    have hy2 : y = T.pt L (k - 1) := by rw [← hy]; exact h2
    refine ⟨fun p q => ?_, fun p q => ?_⟩
    · have : y = p := by simpa using q
      subst this
      exact ⟨hy2, hy, by omega⟩
    · rw [← hy2]
      cases r with
      | nil => cases q
      | cons x r =>
        have : x = p := by simpa using q
        subst this
        obtain ⟨g1, g2, g3, g4⟩ := h4
        have hx : x.2.1 = y.1 - 1 := by omega
        exact ⟨by rw [← hx]; exact g2, hx, by omega⟩
theorem en_node {L : List Nd} {k : Nat} {n : Nd} (hn : L[k]? = some n) (he : ∀ j, j ≤ k → T.er L j = 0) : enX L k = (hld n.op, nodeI n (if T.arN n.op = 2 then enX L ((T.pt L (k - 1)).1 - 1) else if T.arN n.op = 1 then enX L (k - 1) else ((shK L k)[0]?).getD e0) (if T.arN n.op = 0 then ((shK L k)[0]?).getD e0 else enX L (k - 1))) := by
  have hk : k < L.length := (List.getElem?_eq_some_iff.1 hn).1
  have hok := T.er_ok hn (he k (Nat.le_refl _))
  have har := hok.ar
  obtain ⟨r1, r2⟩ := run_two (Nat.le_of_lt hk) (fun j hj => he j (by omega))
  unfold enX
  rw [shK_succ hn]
  unfold stepI
  rw [List.getElem?_cons_zero, Option.getD_some]
  have s0 : 1 ≤ T.arN n.op → (shK L k)[0]? = some (enX L (k - 1)) := fun h => by
    have hq : (T.run L k)[0]? = some (T.run L k)[0] := List.getElem?_eq_getElem (by omega)
    have := en_stack k (Nat.le_of_lt hk) 0 _ hq
    rw [(r1 _ hq).2.1] at this
    exact this
  have s1 : T.arN n.op = 2 → (shK L k)[1]? = some (enX L ((T.pt L (k - 1)).1 - 1)) := fun h => by
    have hq : (T.run L k)[1]? = some (T.run L k)[1] := List.getElem?_eq_getElem (by omega)
    have := en_stack k (Nat.le_of_lt hk) 1 _ hq
    rw [(r2 _ hq).2.1] at this
    exact this
  by_cases a2 : T.arN n.op = 2
  · rw [if_pos a2, if_pos a2, if_neg (by omega), s0 (by omega), s1 a2]
    rfl
  · rw [if_neg a2, if_neg a2]
    by_cases a1 : T.arN n.op = 1
    · rw [if_pos a1, if_neg (by omega), s0 (by omega)]
      rfl
    · have := T.arN_le n.op
      rw [if_neg a1, if_pos (by omega)]
/-- The whole pattern is the part that ends with its last node. -/
theorem sh_last {L : List Nd} (h : 0 < L.length) : shI L = (enX L (L.length - 1)).2 := by
  unfold shI enX
  rw [Nat.sub_add_cancel h]
end Go.Proofs.YtnpifgcgjgddoaaGreatDoor.N

namespace Go.Proofs.YtnpifgcgjgddoaaGreatDoor.N
open Go.RowKit
theorem itT_nil : itT [] = [] := rfl
/-- What a node says besides its kind. -/
def fldX (n : Nd) : ByteArray := match agT n with
  | none => ⟨#[]⟩
  | some t => tkX t
def grS (s : ByteArray) : ByteArray := if s.size = 0 then ⟨#[123, 58]⟩ else ⟨#[123, 58]⟩ ++ s ++ ⟨#[58]⟩
def frA (n : Nd) : ByteArray := if n.op = 1 then ⟨#[37, 101]⟩ else if n.op = 2 then ⟨#[37, 102]⟩ else if n.op = 3 then ⟨#[46]⟩ else if n.op = 17 then ⟨#[123, 125]⟩ else if n.op = 12 then ⟨#[38]⟩ else if n.op = 13 then ⟨#[33]⟩ else
  if n.op = 18 then ⟨#[123]⟩ else if n.op = 19 then grS n.tx ++ ⟨#[32]⟩ else if n.op = 20 then ⟨#[123, 124, 32]⟩ else if n.op = 21 then ⟨#[123, 126, 32]⟩ else if n.op = 4 ∨ n.op = 5 ∨ n.op = 6 then fldX n else ⟨#[]⟩
def frB (n : Nd) : ByteArray := if n.op = 7 then ⟨#[32]⟩ else if n.op = 8 then ⟨#[32, 47, 32]⟩ else ⟨#[]⟩
def frC (n : Nd) : ByteArray := if n.op = 9 then ⟨#[42]⟩ else if n.op = 10 then ⟨#[43]⟩ else if n.op = 11 then ⟨#[63]⟩ else if n.op = 14 then ⟨#[94]⟩ ++ fldX n else if n.op = 15 then ⟨#[94, 43]⟩ ++ fldX n else
  if n.op = 16 then ⟨#[94, 45]⟩ ++ fldX n else if n.op = 22 ∨ n.op = 23 then ⟨#[32, 45, 62, 32]⟩ ++ fldX n else if n.op = 18 then ⟨#[125]⟩ else if n.op = 19 then ⟨#[32, 58, 125]⟩ else if n.op = 20 then ⟨#[32, 124, 125]⟩ else
  if n.op = 21 then ⟨#[32, 126, 125]⟩ else ⟨#[]⟩
/-- How strongly a part must hold. -/
def asK (op : Int) (i : Nat) : Nat := if hld op = 4 then 0 else hld op + i
theorem cat_list (a b : ByteArray) : (a ++ b).data.toList = a.data.toList ++ b.data.toList := by rw [ByteArray.data_append, Array.toList_append]
theorem itX_some (t : Tk) : itX (some t) = (tkX t).data.toList := rfl
theorem gr_text (s : ByteArray) : itX (txI 21 s) = (grS s).data.toList := by
  show (tkX ⟨21, 0, 0, 0, s, 0, 0, 0, 0⟩).data.toList = _
  have e : tkX ⟨21, 0, 0, 0, s, 0, 0, 0, 0⟩ = ⟨#[123, 58]⟩ ++ gnm s := rfl
  rw [e, cat_list]
  unfold gnm grS
  by_cases h : s.size = 0
  · rw [if_pos h, if_pos h]
    rfl
  · rw [if_neg h, if_neg h, cat_list, cat_list, cat_list]
    rfl
theorem fdx4 {n : Nd} (h : n.op = 4) : fldX n = Q.asText (Q.qT n.tx) := by
  have : agT n = some ⟨2, 0, 0, 0, n.tx, 0, 0, 0, 0⟩ := by unfold agT; rw [h]; rfl
  unfold fldX
  rw [this]
  rfl
theorem fdx22 {n : Nd} (h : n.op = 22) : fldX n = Q.asText (Q.qT n.tx) := by
  have : agT n = some ⟨2, 0, 0, 0, n.tx, 0, 0, 0, 0⟩ := by unfold agT; rw [h]; rfl
  unfold fldX
  rw [this]
  rfl
theorem fdx5 {n : Nd} (h : n.op = 5) : fldX n = txO (shT (mkS n.s0 n.s1 n.s2 n.s3)) := by
  have : agT n = some ⟨3, 0, 0, 0, ⟨#[]⟩, n.s0, n.s1, n.s2, n.s3⟩ := by unfold agT; rw [h]; rfl
  unfold fldX
  rw [this]
  rfl
theorem fdx6 {n : Nd} (h : n.op = 6) : fldX n = n.tx := by
  have : agT n = some ⟨1, 0, 0, 0, n.tx, 0, 0, 0, 0⟩ := by unfold agT; rw [h]; rfl
  unfold fldX
  rw [this]
  rfl
theorem fdx14 {n : Nd} (h : n.op = 14) : fldX n = txO (dgT 10 n.nn.toNat) := by
  have : agT n = some ⟨4, n.nn, 0, 0, ⟨#[]⟩, 0, 0, 0, 0⟩ := by unfold agT; rw [h]; rfl
  unfold fldX
  rw [this]
  rfl
theorem fdx15 {n : Nd} (h : n.op = 15) : fldX n = txO (dgT 10 n.nn.toNat) := by
  have : agT n = some ⟨4, n.nn, 0, 0, ⟨#[]⟩, 0, 0, 0, 0⟩ := by unfold agT; rw [h]; rfl
  unfold fldX
  rw [this]
  rfl
theorem fdx16 {n : Nd} (h : n.op = 16) : fldX n = txO (dgT 10 n.nn.toNat) := by
  have : agT n = some ⟨4, n.nn, 0, 0, ⟨#[]⟩, 0, 0, 0, 0⟩ := by unfold agT; rw [h]; rfl
  unfold fldX
  rw [this]
  rfl
theorem fdx23 {n : Nd} (h : n.op = 23) : fldX n = txO (dgT 10 n.nn.toNat) := by
  have : agT n = some ⟨4, n.nn, 0, 0, ⟨#[]⟩, 0, 0, 0, 0⟩ := by unfold agT; rw [h]; rfl
  unfold fldX
  rw [this]
  rfl
theorem fdx19 {n : Nd} (h : n.op = 19) : fldX n = n.tx := by
  have e : agT n = if n.tx.size = 0 then none else some ⟨1, 0, 0, 0, n.tx, 0, 0, 0, 0⟩ := by unfold agT; rw [h]; rfl
  unfold fldX
  rw [e]
  by_cases q : n.tx.size = 0
  · rw [if_pos q]
    exact (emp_of (by omega)).symm
  · rw [if_neg q]
    rfl
theorem fdx1 {n : Nd} (h : n.op = 1) : fldX n = ⟨#[]⟩ := by
  have : agT n = none := by unfold agT; rw [h]; rfl
  unfold fldX
  rw [this]
theorem fdx2 {n : Nd} (h : n.op = 2) : fldX n = ⟨#[]⟩ := by
  have : agT n = none := by unfold agT; rw [h]; rfl
  unfold fldX
  rw [this]
theorem fdx3 {n : Nd} (h : n.op = 3) : fldX n = ⟨#[]⟩ := by
  have : agT n = none := by unfold agT; rw [h]; rfl
  unfold fldX
  rw [this]
theorem fdx7 {n : Nd} (h : n.op = 7) : fldX n = ⟨#[]⟩ := by
  have : agT n = none := by unfold agT; rw [h]; rfl
  unfold fldX
  rw [this]
theorem fdx8 {n : Nd} (h : n.op = 8) : fldX n = ⟨#[]⟩ := by
  have : agT n = none := by unfold agT; rw [h]; rfl
  unfold fldX
  rw [this]
theorem fdx9 {n : Nd} (h : n.op = 9) : fldX n = ⟨#[]⟩ := by
  have : agT n = none := by unfold agT; rw [h]; rfl
  unfold fldX
  rw [this]
theorem fdx10 {n : Nd} (h : n.op = 10) : fldX n = ⟨#[]⟩ := by
  have : agT n = none := by unfold agT; rw [h]; rfl
  unfold fldX
  rw [this]
theorem fdx11 {n : Nd} (h : n.op = 11) : fldX n = ⟨#[]⟩ := by
  have : agT n = none := by unfold agT; rw [h]; rfl
  unfold fldX
  rw [this]
theorem fdx12 {n : Nd} (h : n.op = 12) : fldX n = ⟨#[]⟩ := by
  have : agT n = none := by unfold agT; rw [h]; rfl
  unfold fldX
  rw [this]
theorem fdx13 {n : Nd} (h : n.op = 13) : fldX n = ⟨#[]⟩ := by
  have : agT n = none := by unfold agT; rw [h]; rfl
  unfold fldX
  rw [this]
theorem fdx17 {n : Nd} (h : n.op = 17) : fldX n = ⟨#[]⟩ := by
  have : agT n = none := by unfold agT; rw [h]; rfl
  unfold fldX
  rw [this]
theorem fdx18 {n : Nd} (h : n.op = 18) : fldX n = ⟨#[]⟩ := by
  have : agT n = none := by unfold agT; rw [h]; rfl
  unfold fldX
  rw [this]
theorem fdx20 {n : Nd} (h : n.op = 20) : fldX n = ⟨#[]⟩ := by
  have : agT n = none := by unfold agT; rw [h]; rfl
  unfold fldX
  rw [this]
theorem fdx21 {n : Nd} (h : n.op = 21) : fldX n = ⟨#[]⟩ := by
  have : agT n = none := by unfold agT; rw [h]; rfl
  unfold fldX
  rw [this]
theorem fr1 {n : Nd} (h : n.op = 1) : frA n = ⟨#[37, 101]⟩ ∧ frB n = ⟨#[]⟩ ∧ frC n = ⟨#[]⟩ := by
  refine ⟨?_, ?_, ?_⟩
  · unfold frA; rw [h]; rfl
  · unfold frB; rw [h]; rfl
  · unfold frC; rw [h]; rfl
theorem fr2 {n : Nd} (h : n.op = 2) : frA n = ⟨#[37, 102]⟩ ∧ frB n = ⟨#[]⟩ ∧ frC n = ⟨#[]⟩ := by
  refine ⟨?_, ?_, ?_⟩
  · unfold frA; rw [h]; rfl
  · unfold frB; rw [h]; rfl
  · unfold frC; rw [h]; rfl
theorem fr3 {n : Nd} (h : n.op = 3) : frA n = ⟨#[46]⟩ ∧ frB n = ⟨#[]⟩ ∧ frC n = ⟨#[]⟩ := by
  refine ⟨?_, ?_, ?_⟩
  · unfold frA; rw [h]; rfl
  · unfold frB; rw [h]; rfl
  · unfold frC; rw [h]; rfl
theorem fr4 {n : Nd} (h : n.op = 4) : frA n = fldX n ∧ frB n = ⟨#[]⟩ ∧ frC n = ⟨#[]⟩ := by
  refine ⟨?_, ?_, ?_⟩
  · unfold frA; rw [h]; rfl
  · unfold frB; rw [h]; rfl
  · unfold frC; rw [h]; rfl
theorem fr5 {n : Nd} (h : n.op = 5) : frA n = fldX n ∧ frB n = ⟨#[]⟩ ∧ frC n = ⟨#[]⟩ := by
  refine ⟨?_, ?_, ?_⟩
  · unfold frA; rw [h]; rfl
  · unfold frB; rw [h]; rfl
  · unfold frC; rw [h]; rfl
theorem fr6 {n : Nd} (h : n.op = 6) : frA n = fldX n ∧ frB n = ⟨#[]⟩ ∧ frC n = ⟨#[]⟩ := by
  refine ⟨?_, ?_, ?_⟩
  · unfold frA; rw [h]; rfl
  · unfold frB; rw [h]; rfl
  · unfold frC; rw [h]; rfl
theorem fr7 {n : Nd} (h : n.op = 7) : frA n = ⟨#[]⟩ ∧ frB n = ⟨#[32]⟩ ∧ frC n = ⟨#[]⟩ := by
  refine ⟨?_, ?_, ?_⟩
  · unfold frA; rw [h]; rfl
  · unfold frB; rw [h]; rfl
  · unfold frC; rw [h]; rfl
theorem fr8 {n : Nd} (h : n.op = 8) : frA n = ⟨#[]⟩ ∧ frB n = ⟨#[32, 47, 32]⟩ ∧ frC n = ⟨#[]⟩ := by
  refine ⟨?_, ?_, ?_⟩
  · unfold frA; rw [h]; rfl
  · unfold frB; rw [h]; rfl
  · unfold frC; rw [h]; rfl
theorem fr9 {n : Nd} (h : n.op = 9) : frA n = ⟨#[]⟩ ∧ frB n = ⟨#[]⟩ ∧ frC n = ⟨#[42]⟩ := by
  refine ⟨?_, ?_, ?_⟩
  · unfold frA; rw [h]; rfl
  · unfold frB; rw [h]; rfl
  · unfold frC; rw [h]; rfl
theorem fr10 {n : Nd} (h : n.op = 10) : frA n = ⟨#[]⟩ ∧ frB n = ⟨#[]⟩ ∧ frC n = ⟨#[43]⟩ := by
  refine ⟨?_, ?_, ?_⟩
  · unfold frA; rw [h]; rfl
  · unfold frB; rw [h]; rfl
  · unfold frC; rw [h]; rfl
theorem fr11 {n : Nd} (h : n.op = 11) : frA n = ⟨#[]⟩ ∧ frB n = ⟨#[]⟩ ∧ frC n = ⟨#[63]⟩ := by
  refine ⟨?_, ?_, ?_⟩
  · unfold frA; rw [h]; rfl
  · unfold frB; rw [h]; rfl
  · unfold frC; rw [h]; rfl
theorem fr12 {n : Nd} (h : n.op = 12) : frA n = ⟨#[38]⟩ ∧ frB n = ⟨#[]⟩ ∧ frC n = ⟨#[]⟩ := by
  refine ⟨?_, ?_, ?_⟩
  · unfold frA; rw [h]; rfl
  · unfold frB; rw [h]; rfl
  · unfold frC; rw [h]; rfl
theorem fr13 {n : Nd} (h : n.op = 13) : frA n = ⟨#[33]⟩ ∧ frB n = ⟨#[]⟩ ∧ frC n = ⟨#[]⟩ := by
  refine ⟨?_, ?_, ?_⟩
  · unfold frA; rw [h]; rfl
  · unfold frB; rw [h]; rfl
  · unfold frC; rw [h]; rfl
theorem fr14 {n : Nd} (h : n.op = 14) : frA n = ⟨#[]⟩ ∧ frB n = ⟨#[]⟩ ∧ frC n = ⟨#[94]⟩ ++ fldX n := by
  refine ⟨?_, ?_, ?_⟩
  · unfold frA; rw [h]; rfl
  · unfold frB; rw [h]; rfl
  · unfold frC; rw [h]; rfl
theorem fr15 {n : Nd} (h : n.op = 15) : frA n = ⟨#[]⟩ ∧ frB n = ⟨#[]⟩ ∧ frC n = ⟨#[94, 43]⟩ ++ fldX n := by
  refine ⟨?_, ?_, ?_⟩
  · unfold frA; rw [h]; rfl
  · unfold frB; rw [h]; rfl
  · unfold frC; rw [h]; rfl
theorem fr16 {n : Nd} (h : n.op = 16) : frA n = ⟨#[]⟩ ∧ frB n = ⟨#[]⟩ ∧ frC n = ⟨#[94, 45]⟩ ++ fldX n := by
  refine ⟨?_, ?_, ?_⟩
  · unfold frA; rw [h]; rfl
  · unfold frB; rw [h]; rfl
  · unfold frC; rw [h]; rfl
theorem fr17 {n : Nd} (h : n.op = 17) : frA n = ⟨#[123, 125]⟩ ∧ frB n = ⟨#[]⟩ ∧ frC n = ⟨#[]⟩ := by
  refine ⟨?_, ?_, ?_⟩
  · unfold frA; rw [h]; rfl
  · unfold frB; rw [h]; rfl
  · unfold frC; rw [h]; rfl
theorem fr18 {n : Nd} (h : n.op = 18) : frA n = ⟨#[123]⟩ ∧ frB n = ⟨#[]⟩ ∧ frC n = ⟨#[125]⟩ := by
  refine ⟨?_, ?_, ?_⟩
  · unfold frA; rw [h]; rfl
  · unfold frB; rw [h]; rfl
  · unfold frC; rw [h]; rfl
theorem fr19 {n : Nd} (h : n.op = 19) : frA n = grS n.tx ++ ⟨#[32]⟩ ∧ frB n = ⟨#[]⟩ ∧ frC n = ⟨#[32, 58, 125]⟩ := by
  refine ⟨?_, ?_, ?_⟩
  · unfold frA; rw [h]; rfl
  · unfold frB; rw [h]; rfl
  · unfold frC; rw [h]; rfl
theorem fr20 {n : Nd} (h : n.op = 20) : frA n = ⟨#[123, 124, 32]⟩ ∧ frB n = ⟨#[]⟩ ∧ frC n = ⟨#[32, 124, 125]⟩ := by
  refine ⟨?_, ?_, ?_⟩
  · unfold frA; rw [h]; rfl
  · unfold frB; rw [h]; rfl
  · unfold frC; rw [h]; rfl
theorem fr21 {n : Nd} (h : n.op = 21) : frA n = ⟨#[123, 126, 32]⟩ ∧ frB n = ⟨#[]⟩ ∧ frC n = ⟨#[32, 126, 125]⟩ := by
  refine ⟨?_, ?_, ?_⟩
  · unfold frA; rw [h]; rfl
  · unfold frB; rw [h]; rfl
  · unfold frC; rw [h]; rfl
theorem fr22 {n : Nd} (h : n.op = 22) : frA n = ⟨#[]⟩ ∧ frB n = ⟨#[]⟩ ∧ frC n = ⟨#[32, 45, 62, 32]⟩ ++ fldX n := by
  refine ⟨?_, ?_, ?_⟩
  · unfold frA; rw [h]; rfl
  · unfold frB; rw [h]; rfl
  · unfold frC; rw [h]; rfl
theorem fr23 {n : Nd} (h : n.op = 23) : frA n = ⟨#[]⟩ ∧ frB n = ⟨#[]⟩ ∧ frC n = ⟨#[32, 45, 62, 32]⟩ ++ fldX n := by
  refine ⟨?_, ?_, ?_⟩
  · unfold frA; rw [h]; rfl
  · unfold frB; rw [h]; rfl
  · unfold frC; rw [h]; rfl
/-- A node's text by its parts'. -/
theorem fr_node {n : Nd} (h : T.alE n = 0) (a b : Ent) : itT (nodeI n a b) = (frA n).data.toList ++ ((if T.arN n.op = 0 then [] else if T.arN n.op = 1 then itT (partI (asK n.op 0) a) else itT (partI (asK n.op 0) a) ++ ((frB n).data.toList ++ itT (partI (asK n.op 1) b))) ++ (frC n).data.toList) := by
  rcases ar_ops h with ⟨z, o⟩ | ⟨z, o⟩ | ⟨z, o⟩
  · rcases o with o | o | o | o | o | o | o
    · obtain ⟨fa, fb, fc⟩ := fr1 o
      rw [fa, fb, fc, nodeI1 o, z]
      rw [if_pos rfl, List.nil_append]
      simp only [itT_cons, itT_nil, List.append_nil]
      rfl
    · obtain ⟨fa, fb, fc⟩ := fr2 o
      rw [fa, fb, fc, nodeI2 o, z]
      rw [if_pos rfl, List.nil_append]
      simp only [itT_cons, itT_nil, List.append_nil]
      rfl
    · obtain ⟨fa, fb, fc⟩ := fr3 o
      rw [fa, fb, fc, nodeI3 o, z]
      rw [if_pos rfl, List.nil_append]
      simp only [itT_cons, itT_nil, List.append_nil]
      rfl
    · obtain ⟨fa, fb, fc⟩ := fr4 o
      rw [fa, fb, fc, nodeI4 o, z]
      rw [fdx4 o]
      rw [if_pos rfl, List.nil_append]
      simp only [itT_cons, itT_nil, List.append_nil]
      rfl
    · obtain ⟨fa, fb, fc⟩ := fr5 o
      rw [fa, fb, fc, nodeI5 o, z]
      rw [fdx5 o]
      rw [if_pos rfl, List.nil_append]
      simp only [itT_cons, itT_nil, List.append_nil]
      rfl
    · obtain ⟨fa, fb, fc⟩ := fr6 o
      rw [fa, fb, fc, nodeI6 o, z]
      rw [fdx6 o]
      rw [if_pos rfl, List.nil_append]
      simp only [itT_cons, itT_nil, List.append_nil]
      rfl
    · obtain ⟨fa, fb, fc⟩ := fr17 o
      rw [fa, fb, fc, nodeI17 o, z]
      rw [if_pos rfl, List.nil_append]
      simp only [itT_cons, itT_nil, List.append_nil]
      rfl
  · rcases o with o | o
    · obtain ⟨fa, fb, fc⟩ := fr7 o
      rw [fa, fb, fc, nodeI7 o, z]
      have e : asK n.op 0 = 1 := by rw [o]; rfl
      have e1 : asK n.op 1 = 2 := by rw [o]; rfl
      rw [if_neg (by decide), if_neg (by decide), e, e1]
      simp only [itT_app, itT_cons, itT_nil, List.append_nil]
      rfl
    · obtain ⟨fa, fb, fc⟩ := fr8 o
      rw [fa, fb, fc, nodeI8 o, z]
      have e : asK n.op 0 = 0 := by rw [o]; rfl
      have e1 : asK n.op 1 = 1 := by rw [o]; rfl
      rw [if_neg (by decide), if_neg (by decide), e, e1]
      simp only [itT_app, itT_cons, itT_nil, List.append_nil]
      rfl
  · rcases o with o | o | o | o | o | o | o | o | o | o | o | o | o | o
    · obtain ⟨fa, fb, fc⟩ := fr9 o
      rw [fa, fb, fc, nodeI9 o, z]
      have e : asK n.op 0 = 3 := by rw [o]; rfl
      rw [if_neg (by decide), if_pos rfl, e]
      simp only [itT_app, itT_cons, itT_nil, List.append_nil]
      rfl
    · obtain ⟨fa, fb, fc⟩ := fr10 o
      rw [fa, fb, fc, nodeI10 o, z]
      have e : asK n.op 0 = 3 := by rw [o]; rfl
      rw [if_neg (by decide), if_pos rfl, e]
      simp only [itT_app, itT_cons, itT_nil, List.append_nil]
      rfl
    · obtain ⟨fa, fb, fc⟩ := fr11 o
      rw [fa, fb, fc, nodeI11 o, z]
      have e : asK n.op 0 = 3 := by rw [o]; rfl
      rw [if_neg (by decide), if_pos rfl, e]
      simp only [itT_app, itT_cons, itT_nil, List.append_nil]
      rfl
    · obtain ⟨fa, fb, fc⟩ := fr12 o
      rw [fa, fb, fc, nodeI12 o, z]
      have e : asK n.op 0 = 2 := by rw [o]; rfl
      rw [if_neg (by decide), if_pos rfl, e]
      simp only [itT_app, itT_cons, itT_nil, List.append_nil]
      rfl
    · obtain ⟨fa, fb, fc⟩ := fr13 o
      rw [fa, fb, fc, nodeI13 o, z]
      have e : asK n.op 0 = 2 := by rw [o]; rfl
      rw [if_neg (by decide), if_pos rfl, e]
      simp only [itT_app, itT_cons, itT_nil, List.append_nil]
      rfl
    · obtain ⟨fa, fb, fc⟩ := fr14 o
      rw [fa, fb, fc, nodeI14 o, z]
      rw [fdx14 o]
      have e : asK n.op 0 = 3 := by rw [o]; rfl
      rw [if_neg (by decide), if_pos rfl, e]
      simp only [itT_app, itT_cons, itT_nil, List.append_nil, cat_list]
      rfl
    · obtain ⟨fa, fb, fc⟩ := fr15 o
      rw [fa, fb, fc, nodeI15 o, z]
      rw [fdx15 o]
      have e : asK n.op 0 = 3 := by rw [o]; rfl
      rw [if_neg (by decide), if_pos rfl, e]
      simp only [itT_app, itT_cons, itT_nil, List.append_nil, cat_list]
      rfl
    · obtain ⟨fa, fb, fc⟩ := fr16 o
      rw [fa, fb, fc, nodeI16 o, z]
      rw [fdx16 o]
      have e : asK n.op 0 = 3 := by rw [o]; rfl
      rw [if_neg (by decide), if_pos rfl, e]
      simp only [itT_app, itT_cons, itT_nil, List.append_nil, cat_list]
      rfl
    · obtain ⟨fa, fb, fc⟩ := fr18 o
      rw [fa, fb, fc, nodeI18 o, z]
      have e : asK n.op 0 = 0 := by rw [o]; rfl
      rw [if_neg (by decide), if_pos rfl, e]
      simp only [itT_app, itT_cons, itT_nil, List.append_nil]
      rfl
    · obtain ⟨fa, fb, fc⟩ := fr19 o
      rw [fa, fb, fc, nodeI19 o, z]
      simp only [if_neg (show ¬ (1 : Nat) = 0 from by decide), if_pos, itT_app, itT_cons, itT_nil, List.append_nil, gr_text, cat_list]
      have e : asK n.op 0 = 0 := by rw [o]; rfl
      rw [e]
      simp only [List.append_assoc]
      rfl
    · obtain ⟨fa, fb, fc⟩ := fr20 o
      rw [fa, fb, fc, nodeI20 o, z]
      have e : asK n.op 0 = 0 := by rw [o]; rfl
      rw [if_neg (by decide), if_pos rfl, e]
      simp only [itT_app, itT_cons, itT_nil, List.append_nil]
      rfl
    · obtain ⟨fa, fb, fc⟩ := fr21 o
      rw [fa, fb, fc, nodeI21 o, z]
      have e : asK n.op 0 = 0 := by rw [o]; rfl
      rw [if_neg (by decide), if_pos rfl, e]
      simp only [itT_app, itT_cons, itT_nil, List.append_nil]
      rfl
    · obtain ⟨fa, fb, fc⟩ := fr22 o
      rw [fa, fb, fc, nodeI22 o, z]
      rw [fdx22 o]
      have e : asK n.op 0 = 3 := by rw [o]; rfl
      rw [if_neg (by decide), if_pos rfl, e]
      simp only [itT_app, itT_cons, itT_nil, List.append_nil, cat_list]
      rfl
    · obtain ⟨fa, fb, fc⟩ := fr23 o
      rw [fa, fb, fc, nodeI23 o, z]
      rw [fdx23 o]
      have e : asK n.op 0 = 3 := by rw [o]; rfl
      rw [if_neg (by decide), if_pos rfl, e]
      simp only [itT_app, itT_cons, itT_nil, List.append_nil, cat_list]
      rfl
/-- The last nodes of a node's parts. -/
def kds (L : List Nd) (k : Nat) : List Nat := if T.arN (T.opAt L k) = 0 then [] else if T.arN (T.opAt L k) = 1 then [k - 1] else [(T.pt L (k - 1)).1 - 1, k - 1]
/-- The text of the first parts, and what stands between. -/
def kdT (L : List Nd) (n : Nd) (ks : List Nat) : Nat → List UInt8
  | 0 => []
  | i + 1 => match ks[i]? with
    | some j => kdT L n ks i ++ ((if i = 0 then [] else (frB n).data.toList) ++ itT (partI (asK n.op i) (enX L j)))
    | none => kdT L n ks i
theorem kdT_succ {L : List Nd} {n : Nd} {ks : List Nat} {i j : Nat} (h : ks[i]? = some j) : kdT L n ks (i + 1) = kdT L n ks i ++ ((if i = 0 then [] else (frB n).data.toList) ++ itT (partI (asK n.op i) (enX L j))) := by
  rw [kdT, h]
theorem kds_len (L : List Nd) (k : Nat) : (kds L k).length = T.arN (T.opAt L k) := by
  have := T.arN_le (T.opAt L k)
  unfold kds
  split
  · simp only [List.length_nil]; omega
  · split
    · simp only [List.length_singleton]; omega
    · simp only [List.length_cons, List.length_nil]; omega
theorem en_text {L : List Nd} {k : Nat} {n : Nd} (hn : L[k]? = some n) (he : ∀ j, j ≤ k → T.er L j = 0) : itT (enX L k).2 = (frA n).data.toList ++ (kdT L n (kds L k) (kds L k).length ++ (frC n).data.toList) := by
  have hok := T.er_ok hn (he k (Nat.le_refl _))
  rw [en_node hn he]
  show itT (nodeI n _ _) = _
  rw [fr_node hok.al]
  congr 2
  have hop : T.opAt L k = n.op := T.op_of hn
  have h2 := T.arN_le n.op
  by_cases a0 : T.arN n.op = 0
  · have hks : kds L k = [] := by unfold kds; rw [hop, if_pos a0]
    rw [hks, if_pos a0]; rfl
  by_cases a1 : T.arN n.op = 1
  · have hks : kds L k = [k - 1] := by unfold kds; rw [hop, if_neg a0, if_pos a1]
    rw [hks, if_neg a0, if_pos a1, if_neg (by omega), if_pos a1]
    show _ = kdT L n [k - 1] (0 + 1)
    rw [kdT_succ (j := k - 1) rfl]
    rfl
  · have hks : kds L k = [(T.pt L (k - 1)).1 - 1, k - 1] := by unfold kds; rw [hop, if_neg a0, if_neg a1]
    rw [hks, if_neg a0, if_neg a1, if_pos (by omega), if_neg a0]
    show _ = kdT L n [(T.pt L (k - 1)).1 - 1, k - 1] (1 + 1)
    rw [kdT_succ (j := k - 1) rfl, kdT_succ (j := (T.pt L (k - 1)).1 - 1) rfl]
    rfl
theorem en_hld {L : List Nd} {k : Nat} {n : Nd} (hn : L[k]? = some n) (he : ∀ j, j ≤ k → T.er L j = 0) : (enX L k).1 = hld n.op := by rw [en_node hn he]
/-- The parts lie ahead. -/
theorem kds_lt {L : List Nd} {k : Nat} {n : Nd} (hn : L[k]? = some n) (he : ∀ j, j ≤ k → T.er L j = 0) : ∀ j ∈ kds L k, j < k := by
  have hk : k < L.length := (List.getElem?_eq_some_iff.1 hn).1
  have hok := T.er_ok hn (he k (Nat.le_refl _))
  have har := hok.ar
  obtain ⟨r1, r2⟩ := run_two (Nat.le_of_lt hk) (fun j hj => he j (by omega))
  have hop : T.opAt L k = n.op := T.op_of hn
  have h2 := T.arN_le n.op
  intro j hj
  unfold kds at hj
  rw [hop] at hj
  by_cases a0 : T.arN n.op = 0
  · rw [if_pos a0] at hj; cases hj
  rw [if_neg a0] at hj
  have q0 : (T.run L k)[0]? = some (T.run L k)[0] := List.getElem?_eq_getElem (by omega)
  have g0 := (r1 _ q0).2.2
  by_cases a1 : T.arN n.op = 1
  · rw [if_pos a1, List.mem_singleton] at hj
    omega
  · rw [if_neg a1] at hj
    have q1 : (T.run L k)[1]? = some (T.run L k)[1] := List.getElem?_eq_getElem (by omega)
    have g1 := (r2 _ q1).2.2
    have g2 := (T.run_bd (Nat.le_of_lt hk) (fun j hj => he j (by omega)) _ (List.getElem_mem (show 0 < (T.run L k).length by omega))).1
    have g3 := (r1 _ q0).2.1
    rw [(r1 _ q0).1] at g2 g3
    rcases List.mem_cons.1 hj with rfl | hj
    · omega
    · rw [List.mem_singleton] at hj; omega
/-- They are what waits on the stack. -/
theorem kds_run {L : List Nd} {k : Nat} {n : Nd} (hn : L[k]? = some n) (he : ∀ j, j ≤ k → T.er L j = 0) : kds L k = (((T.run L k).take (T.arN n.op)).reverse).map fun p => p.2.1 := by
  have hk : k < L.length := (List.getElem?_eq_some_iff.1 hn).1
  have hok := T.er_ok hn (he k (Nat.le_refl _))
  have har := hok.ar
  obtain ⟨r1, r2⟩ := run_two (Nat.le_of_lt hk) (fun j hj => he j (by omega))
  have hop : T.opAt L k = n.op := T.op_of hn
  have h2 := T.arN_le n.op
  unfold kds
  rw [hop]
  cases hr : T.run L k with
  | nil =>
    rw [hr] at har
    rw [if_pos (by simpa using har)]
    simp
  | cons y r =>
    rw [hr] at har r1 r2
    have g0 := (r1 y rfl).2.1
    by_cases a0 : T.arN n.op = 0
    · rw [if_pos a0, a0]; rfl
    rw [if_neg a0]
    by_cases a1 : T.arN n.op = 1
    · rw [if_pos a1, a1]
      simp [g0]
    · rw [if_neg a1, show T.arN n.op = 2 from by omega]
      cases r with
      | nil => simp at har; omega
      | cons x r =>
        have g1 := (r2 x rfl).2.1
        simp [g0, g1]
end Go.Proofs.YtnpifgcgjgddoaaGreatDoor.N
