/- DERIVED. Plain mathematics and walks, laid together (12). -/
import Derived.Test.YtnpifgcgjgddoaaGreatDoorRows
import Derived.WalkKit
import Derived.Maps.AppendAt
import Derived.ProofKit
import Derived.Test.YtnpifgcgjgddoaaGreatDoorPw11
set_option maxRecDepth 100000
set_option maxHeartbeats 8000000
namespace Go.Proofs.YtnpifgcgjgddoaaGreatDoor.Q
open Go.RowKit
def cpE (s : ByteArray) (i : Int) : Int := if 65536 < s.size then 2 else if i < 0 ∨ (s.size : Int) < i then 1 else 0
theorem ze4 (s : ByteArray) (i : Int) (w : World) :
  Calls Tryz.prog 154 #[.string s, .int .i64 i] w fun e w' => e = .returned (.int .i64 (cpE s i)) /\ w' = w := by
 by_cases h : 65536 < s.size
 ·have HE : Hid (cpE s i = 2) := (by show cpE s i = 2; unfold cpE; rw [if_pos h])
  have h1 : (65536 : Int) < (s.size : Int) := by omega
  go_enter Tryz.func154, Tryz.ntmps154
  go_wp2
  go_ret
  exact ⟨by rw [HE.out]; rfl, rfl⟩
 ·have h1 : ¬ (65536 : Int) < (s.size : Int) := by omega
  by_cases h0 : i < 0
  ·have HE : Hid (cpE s i = 1) := (by show cpE s i = 1; unfold cpE; rw [if_neg h, if_pos (.inl h0)])
   go_enter Tryz.func154, Tryz.ntmps154
   go_wp2
   go_ret
   exact ⟨by rw [HE.out]; rfl, rfl⟩
  ·by_cases h2 : (s.size : Int) < i
   ·have HE : Hid (cpE s i = 1) := (by show cpE s i = 1; unfold cpE; rw [if_neg h, if_pos (.inr h2)])
    go_enter Tryz.func154, Tryz.ntmps154
    go_wp2
    go_ret
    exact ⟨by rw [HE.out]; rfl, rfl⟩
   ·have HE : Hid (cpE s i = 0) := (by show cpE s i = 0; unfold cpE; rw [if_neg h, if_neg (by omega)])
    go_enter Tryz.func154, Tryz.ntmps154
    go_wp2
    go_ret
    exact ⟨by rw [HE.out]; rfl, rfl⟩
def mkB (c : Int) : Bool := c == 39 || c == 34
theorem zjm (c : Int) (w : World) :
  Calls Tryz.prog 155 #[.int .u8 c] w fun e w' => e = .returned (.bool (mkB c)) /\ w' = w := by
 by_cases h : c = 39
 ·have HE : Hid (mkB c = true) := (by show mkB c = true; unfold mkB; rw [beq_iff_eq.2 h]; rfl)
  have e1 : (c == 39) = true := beq_iff_eq.2 h
  clear h
  go_enter Tryz.func155, Tryz.ntmps155
  go_wp2
  go_ret
  exact ⟨by rw [HE.out]; rfl, rfl⟩
 ·have e1 : (c == 39) = false := bF h
  have HE : Hid (mkB c = (c == 34)) := (by show mkB c = (c == 34); unfold mkB; rw [e1]; rfl)
  clear h
  go_enter Tryz.func155, Tryz.ntmps155
  go_wp2
  go_ret
  exact ⟨by rw [HE.out]; rfl, rfl⟩
abbrev digs : ByteArray := ⟨#[48, 49, 50, 51, 52, 53, 54, 55, 56, 57, 97, 98, 99, 100, 101, 102]⟩
theorem zhk (c : UInt8) : Lib.indexByte digs.data.toList c = zbj (c.toNat : Int) := by
 have key : ∀ n, n < 256 -> Lib.indexByte digs.data.toList (UInt8.ofNat n) = zbj (n : Int) := by decide +kernel
 have := key c.toNat c.toNat_lt
 rw [UInt8.ofNat_toNat] at this
 exact this
theorem zcf (c : UInt8) (w : World) : Calls Tryz.prog 153 #[.string digs, .int .u8 (c.toNat : Int)] w fun e w' => e = .returned (.int .i64 (zbj (c.toNat : Int))) /\ w' = w := by
 refine (Tryz.strings_IndexByte digs (c.toNat : Int) w).mono ?_
 rintro e w' ⟨rfl, rfl⟩
 refine ⟨?_, rfl⟩
 rw [<- zhk]
 simp
theorem zet {b b' : Int} {n : Nat} {n' : Int} (hb : b' = b) (hn : n' = n) : Ending.returned (.tuple #[.int .u8 b', .int .i64 n', .int .i64 0]) = .returned (esV (some (b, n))) := by rw [hb, hn]; rfl
theorem ret_by {b b' : Int} {n : Nat} {n' : Int} (hb : b' = b) (hn : n' = n) : Ending.returned (.tuple #[.int .u8 b', .int .i64 n', .int .i64 0]) = .returned (byV (.inl (b, n))) := by rw [hb, hn]; rfl
theorem zc6 (s : ByteArray) (i : Nat) (hi : i + 1 < s.size) (hs : s.size <= 140737488355328) (w : World) :
  Calls Tryz.prog 207 #[.string s, .int .i64 i] w fun e w' => e = .returned (esV (za3 s i)) /\ w' = w := by
 by_cases h : i + 3 < s.size
 ·have h2 : i + 2 < s.size := by omega
  have hb1 := zbJ (s[i + 2].toNat : Int)
  have hb2 := zbJ (s[i + 3].toNat : Int)
  have HE : Hid (za3 s i = if 0 <= zbj (s[i + 2].toNat : Int) /\ 0 <= zbj (s[i + 3].toNat : Int) then some (16 * zbj (s[i + 2].toNat : Int) + zbj (s[i + 3].toNat : Int), i + 4) else none) := (by show za3 s i = _; unfold za3; rw [zai h, zai h2])
  have HI : Hid (∀ w, Calls Tryz.prog 153 #[.string digs, .int .u8 (s[i + 2].toNat : Int)] w fun e w' => e = .returned (.int .i64 (zbj (s[i + 2].toNat : Int))) /\ w' = w) := fun w => zcf _ w
  have HJ : Hid (∀ w, Calls Tryz.prog 153 #[.string digs, .int .u8 (s[i + 3].toNat : Int)] w fun e w' => e = .returned (.int .i64 (zbj (s[i + 3].toNat : Int))) /\ w' = w) := fun w => zcf _ w
  go_enter Tryz.func207, Tryz.ntmps207
  go_wp2_with fail
  refine (HI.out _).mono ?_
  rintro e w' ⟨rfl, rfl⟩
  clear HI
  go_wp2_with fail
  refine (HJ.out _).mono ?_
  rintro e w' ⟨rfl, rfl⟩
  clear HJ
  generalize zbj (s[i + 2].toNat : Int) = a at *
  generalize zbj (s[i + 3].toNat : Int) = b at *
  by_cases ha : 0 <= a
  ·by_cases hb : 0 <= b
   ·have hw8 : IntKind.u8.wrap (16 * a + b) = 16 * a + b := by rw [IntKind.wrap_u8']; omega
    go_wp2
    go_ret3
    exact ⟨by rw [HE.out, if_pos ⟨ha, hb⟩]; exact zet (by omega) (by omega), rfl⟩
   ·go_wp2
    go_ret3
    exact ⟨by rw [HE.out, if_neg (fun h => by omega)]; rfl, rfl⟩
  ·go_wp2
   go_ret3
   exact ⟨by rw [HE.out, if_neg (fun h => by omega)]; rfl, rfl⟩
 ·have h1 : ¬ (i : Int) + 3 < (s.size : Int) := by omega
  have HE : Hid (za3 s i = none) := (by show za3 s i = none; unfold za3; rw [zas h]; rw [if_neg]; rintro ⟨_, h2⟩; simp [zbj] at h2)
  go_enter Tryz.func207, Tryz.ntmps207
  go_wp2
  go_ret3
  exact ⟨by rw [HE.out]; rfl, rfl⟩
theorem zc7 (s : ByteArray) (i : Nat) (hi : i < s.size) (hs : s.size <= 140737488355328) (w : World) :
  Calls Tryz.prog 197 #[.string s, .int .i64 i] w fun e w' => e = .returned (esV (zan s i)) /\ w' = w := by
 by_cases h : i + 1 < s.size
 ·have HX : Hid (∀ w, Calls Tryz.prog 207 #[.string s, .int .i64 i] w fun e w' => e = .returned (esV (za3 s i)) /\ w' = w) := fun w => zc6 s i h hs w
  have hb : (0 : Int) <= (s[i + 1].toNat : Int) /\ (s[i + 1].toNat : Int) <= 255 := by have := s[i + 1].toNat_lt; omega
  have HE : Hid (zan s i = if (s[i + 1].toNat : Int) = 110 then some (10, i + 2) else if (s[i + 1].toNat : Int) = 114 then some (13, i + 2) else if (s[i + 1].toNat : Int) = 116 then some (9, i + 2) else
 if (s[i + 1].toNat : Int) = 92 ∨ (s[i + 1].toNat : Int) = 39 ∨ (s[i + 1].toNat : Int) = 34 then some ((s[i + 1].toNat : Int), i + 2) else if (s[i + 1].toNat : Int) = 120 then za3 s i else none) := (by show zan s i = _; unfold zan; rw [zai h])
  by_cases h110 : (s[i + 1].toNat : Int) = 110
  ·have HF : Hid (zan s i = some (10, i + 2)) := (by show zan s i = _; rw [HE.out]; rw [if_pos h110])
   clear HE HX
   have e110 : ((s[i + 1].toNat : Int) == 110) = true := beq_iff_eq.2 h110
   clear h110
   go_enter Tryz.func197, Tryz.ntmps197
   go_wp2
   go_ret3
   exact ⟨by rw [HF.out]; exact zet rfl (by omega), rfl⟩
  have e110 : ((s[i + 1].toNat : Int) == 110) = false := bF h110
  by_cases h114 : (s[i + 1].toNat : Int) = 114
  ·have HF : Hid (zan s i = some (13, i + 2)) := (by show zan s i = _; rw [HE.out]; rw [if_neg h110, if_pos h114])
   clear HE HX
   have e114 : ((s[i + 1].toNat : Int) == 114) = true := beq_iff_eq.2 h114
   clear h114
   go_enter Tryz.func197, Tryz.ntmps197
   go_wp2
   go_ret3
   exact ⟨by rw [HF.out]; exact zet rfl (by omega), rfl⟩
  have e114 : ((s[i + 1].toNat : Int) == 114) = false := bF h114
  by_cases h116 : (s[i + 1].toNat : Int) = 116
  ·have HF : Hid (zan s i = some (9, i + 2)) := (by show zan s i = _; rw [HE.out]; rw [if_neg h110, if_neg h114, if_pos h116])
   clear HE HX
   have e116 : ((s[i + 1].toNat : Int) == 116) = true := beq_iff_eq.2 h116
   clear h116
   go_enter Tryz.func197, Tryz.ntmps197
   go_wp2
   go_ret3
   exact ⟨by rw [HF.out]; exact zet rfl (by omega), rfl⟩
  have e116 : ((s[i + 1].toNat : Int) == 116) = false := bF h116
  by_cases hg : (s[i + 1].toNat : Int) = 92 ∨ (s[i + 1].toNat : Int) = 39 ∨ (s[i + 1].toNat : Int) = 34
  ·have HF : Hid (zan s i = some ((s[i + 1].toNat : Int), i + 2)) := (by show zan s i = _; rw [HE.out]; rw [if_neg h110, if_neg h114, if_neg h116, if_pos hg])
   clear HE HX h110 h114 h116
   rcases hg with hg | hg | hg
   ·have e92 : ((s[i + 1].toNat : Int) == 92) = true := beq_iff_eq.2 hg
    clear hg
    go_enter Tryz.func197, Tryz.ntmps197
    go_wp2
    go_ret3
    exact ⟨by rw [HF.out]; exact zet rfl (by omega), rfl⟩
   ·have e92 : ((s[i + 1].toNat : Int) == 92) = false := bF (by omega)
    have e39 : ((s[i + 1].toNat : Int) == 39) = true := beq_iff_eq.2 hg
    clear hg
    go_enter Tryz.func197, Tryz.ntmps197
    go_wp2
    go_ret3
    exact ⟨by rw [HF.out]; exact zet rfl (by omega), rfl⟩
   ·have e92 : ((s[i + 1].toNat : Int) == 92) = false := bF (by omega)
    have e39 : ((s[i + 1].toNat : Int) == 39) = false := bF (by omega)
    have e34 : ((s[i + 1].toNat : Int) == 34) = true := beq_iff_eq.2 hg
    clear hg
    go_enter Tryz.func197, Tryz.ntmps197
    go_wp2
    go_ret3
    exact ⟨by rw [HF.out]; exact zet rfl (by omega), rfl⟩
  have e92 : ((s[i + 1].toNat : Int) == 92) = false := bF (by omega)
  have e39 : ((s[i + 1].toNat : Int) == 39) = false := bF (by omega)
  have e34 : ((s[i + 1].toNat : Int) == 34) = false := bF (by omega)
  by_cases h120 : (s[i + 1].toNat : Int) = 120
  ·have HF : Hid (zan s i = za3 s i) := (by show zan s i = _; rw [HE.out]; rw [if_neg h110, if_neg h114, if_neg h116, if_neg hg, if_pos h120])
   have e120 : ((s[i + 1].toNat : Int) == 120) = true := beq_iff_eq.2 h120
   clear HE h110 h114 h116 h120 hg
   go_enter Tryz.func197, Tryz.ntmps197
   go_wp2_with fail
   refine (HX.out _).mono ?_
   rintro e w' ⟨rfl, rfl⟩
   cases hq : za3 s i with
   | none =>
    rw [hq] at HF
    clear HX hq
    dsimp only [esV]
    go_wp2
    go_ret3
    exact ⟨by rw [HF.out]; rfl, rfl⟩
   | some q =>
    obtain ⟨qb, qn⟩ := q
    rw [hq] at HF
    clear HX hq
    dsimp only [esV]
    go_wp2
    go_ret3
    exact ⟨by rw [HF.out]; rfl, rfl⟩
  have e120 : ((s[i + 1].toNat : Int) == 120) = false := bF h120
  have HF : Hid (zan s i = none) := (by show zan s i = _; rw [HE.out]; rw [if_neg h110, if_neg h114, if_neg h116, if_neg hg, if_neg h120])
  clear HE HX h110 h114 h116 h120 hg
  go_enter Tryz.func197, Tryz.ntmps197
  go_wp2
  go_ret3
  exact ⟨by rw [HF.out]; rfl, rfl⟩
 ·have HE : Hid (zan s i = none) := (by show zan s i = none; unfold zan; rw [zas h]; rfl)
  have h1 : ¬ (i : Int) + 1 < (s.size : Int) := by omega
  go_enter Tryz.func197, Tryz.ntmps197
  go_wp2
  go_ret3
  exact ⟨by rw [HE.out]; rfl, rfl⟩
theorem zgM (s : ByteArray) (i : Nat) (h : i < s.size) (hs : s.size <= 140737488355328) (w : World) :
  Calls Tryz.prog 174 #[.string s, .int .i64 i] w fun e w' => e = .returned (byV (zaN s i)) /\ w' = w := by
 have HX : Hid (∀ w, Calls Tryz.prog 197 #[.string s, .int .i64 i] w fun e w' => e = .returned (esV (zan s i)) /\ w' = w) := fun w => zc7 s i h hs w
 have hb : (0 : Int) <= (s[i].toNat : Int) /\ (s[i].toNat : Int) <= 255 := by have := s[i].toNat_lt; omega
 have HE : Hid (zaN s i = if (s[i].toNat : Int) = 92 then (match zan s i with | none => .inr (i, 21) | some p => .inl p) else if (s[i].toNat : Int) < 32 ∨ (s[i].toNat : Int) = 127 then .inr (i, 22) else .inl ((s[i].toNat : Int), i + 1)) := (by show zaN s i = _; unfold zaN; rw [zai h]; rfl)
 by_cases h92 : (s[i].toNat : Int) = 92
 ·have e92 : ((s[i].toNat : Int) == 92) = true := beq_iff_eq.2 h92
  have HF : Hid (zaN s i = (match zan s i with | none => .inr (i, 21) | some p => .inl p)) := (by show zaN s i = _; rw [HE.out, if_pos h92])
  clear HE h92
  go_enter Tryz.func174, Tryz.ntmps174
  go_wp2_with fail
  refine (HX.out _).mono ?_
  rintro e w' ⟨rfl, rfl⟩
  cases hq : zan s i with
  | none =>
   rw [hq] at HF
   clear HX hq
   dsimp only [esV]
   go_wp2
   go_ret3
   exact ⟨by rw [HF.out]; rfl, rfl⟩
  | some q =>
   obtain ⟨qb, qn⟩ := q
   rw [hq] at HF
   clear HX hq
   dsimp only [esV]
   go_wp2
   go_ret3
   exact ⟨by rw [HF.out]; rfl, rfl⟩
 ·have e92 : ((s[i].toNat : Int) == 92) = false := bF h92
  clear HX
  by_cases h32 : (s[i].toNat : Int) < 32
  ·have HF : Hid (zaN s i = .inr (i, 22)) := (by show zaN s i = _; rw [HE.out, if_neg h92, if_pos (.inl h32)])
   clear HE h92
   go_enter Tryz.func174, Tryz.ntmps174
   go_wp2
   go_ret3
   exact ⟨by rw [HF.out]; rfl, rfl⟩
  by_cases h127 : (s[i].toNat : Int) = 127
  ·have HF : Hid (zaN s i = .inr (i, 22)) := (by show zaN s i = _; rw [HE.out, if_neg h92, if_pos (.inr h127)])
   have e127 : ((s[i].toNat : Int) == 127) = true := beq_iff_eq.2 h127
   clear HE h92 h127
   go_enter Tryz.func174, Tryz.ntmps174
   go_wp2
   go_ret3
   exact ⟨by rw [HF.out]; rfl, rfl⟩
  ·have HF : Hid (zaN s i = .inl ((s[i].toNat : Int), i + 1)) := (by show zaN s i = _; rw [HE.out, if_neg h92, if_neg (by omega)])
   have e127 : ((s[i].toNat : Int) == 127) = false := bF h127
   clear HE h92 h127
   go_enter Tryz.func174, Tryz.ntmps174
   go_wp2
   go_ret3
   exact ⟨by rw [HF.out]; exact ret_by rfl (by omega), rfl⟩
theorem Tryz.info5 : (Tryz.prog.info? 5).map (fun i => (i.zero, i.size, i.bytes)) = some (some (.int .u8 0), 1, 1) := by kernel_rfl
theorem za2 {w w' : World} {base e size : Nat} {v : Value} {n : Nat} {xs : List Value} (h : w.ownsRow base e size v n xs) (hb : Below w.heap.size w w') : w'.ownsRow base e size v n xs := by
 refine h.kept (row := none) ⟨hb.os, hb.tape, hb.output, hb.size, fun k hk _ => hb.block k hk⟩ ?_
 cases h2 : v.ownBlock
 ·exact .inl rfl
 ·exact .inr (by simp)
theorem zd1 {w : World} {base : Nat} {v : Value} {l : List Int} (h : w.ownsRow base 5 1 v l.length (l.map (Value.int .u8))) :
  (convert 55 9 v).run Tryz.prog w = .ok (.string (zac l)) w := by
 have hc := h
 obtain ⟨hlen, h2⟩ := h
 rcases h2 with ⟨rfl, hn⟩ | ⟨g, cap, cur, rfl, _⟩
 ·obtain rfl : l = [] := List.eq_nil_of_length_eq_zero hn
  rw [run_convert_bytes_string w 55 9 5 _ _ _ Tryz.underlying55 Tryz.underlying5 Tryz.underlying9]
  rfl
 ·rw [run_convert_bytes_string w 55 9 5 _ _ _ Tryz.underlying55 Tryz.underlying5 Tryz.underlying9]
  refine run_bytesToString w ⟨g, 0, none⟩ l.length cap l ?_
  have := run_loadCells_list (P := Tryz.prog) (w := w) ⟨g, 0, none⟩ (l.map (Value.int .u8)) (hc.cells rfl)
  rwa [List.length_map] at this
structure FHolds (w : World) (b : Nat) (p q : Int) : Prop where
 lt : b < w.heap.size
 c0 : w.cell? ⟨b, 0, none⟩ = some (.int .i64 p)
 c1 : w.cell? ⟨b, 1, none⟩ = some (.int .i64 q)
 f0 : w.frozen? ⟨b, 0, none⟩ = false
 f1 : w.frozen? ⟨b, 1, none⟩ = false
theorem FHolds.below {B : Nat} {w w' : World} {b : Nat} {p q : Int} (h : FHolds w b p q) (hb : Below B w w') (hB : b < B) : FHolds w' b p q :=
 ⟨Nat.lt_of_lt_of_le h.lt hb.size, (hb.cell (p := ⟨b, 0, none⟩) hB).trans h.c0, (hb.cell (p := ⟨b, 1, none⟩) hB).trans h.c1, (hb.frozen (p := ⟨b, 0, none⟩) hB).trans h.f0, (hb.frozen (p := ⟨b, 1, none⟩) hB).trans h.f1⟩
theorem FHolds.new (w : World) (p q : Int) : FHolds (w.alloc (.cells #[.int .i64 p, .int .i64 q] 39)) w.heap.size p q := by
 constructor <;> simp [go_sem]
theorem FHolds.grown {w w' : World} {b : Nat} {p q : Int} {row : Option Nat} (h : FHolds w b p q) (hg : w.grownBy w' row) (hne : row = some b -> False) : FHolds w' b p q := by
 have e := hg.block b h.lt (fun e => hne e.symm)
 exact ⟨Nat.lt_of_lt_of_le h.lt hg.size, (World.cell?_of_block (a := ⟨b, 0, none⟩) e).trans h.c0, (World.cell?_of_block (a := ⟨b, 1, none⟩) e).trans h.c1,
  (World.frozen?_of_block (a := ⟨b, 0, none⟩) e).trans h.f0, (World.frozen?_of_block (a := ⟨b, 1, none⟩) e).trans h.f1⟩
theorem FHolds.alloc {w : World} {b : Nat} {p q : Int} (h : FHolds w b p q) (o : Obj) : FHolds (w.alloc o) b p q :=
 h.below (B := w.heap.size) ((Below.refl _ _).alloc (Nat.le_refl _) _) h.lt
theorem zcl {B : Nat} {w wr : World} {b : Nat} (hb : Below B w wr) (h : B <= b) (u v : Value) : Below B w ((wr.setCell ⟨b, 0, none⟩ u).setCell ⟨b, 1, none⟩ v) :=
 (hb.setCell (p := ⟨b, 0, none⟩) h _).setCell (p := ⟨b, 1, none⟩) h _
structure AtL (w wr : World) (v : Value) (l : List Int) : Prop where
 f : FHolds wr w.heap.size 0 0
 o : wr.ownsRow (w.heap.size + 1) 5 1 v l.length (l.map (Value.int .u8))
 b : Below w.heap.size w wr
theorem ze5 (s : ByteArray) (i : Nat) (m : Int) (hm : 0 <= m) (hi : i <= s.size) (hs : s.size <= 65536) (w : World) :
  Calls Tryz.prog 156 #[.string s, .int .i64 i, .int .u8 m] w fun e w' => e = .returned (cuV (za4 s m (s.size + 1) i [])) /\ Below w.heap.size w w' := by
 obtain ⟨i0, hinf, hz0, hz1, hz2⟩ := info_parts Tryz.info5
 generalize hR : za4 s m (s.size + 1) i [] = R
 have HR := hO hR
 clear hR
 have HF := hO (FHolds.new w 0 0)
 have HB := hO ((Below.refl w.heap.size w).alloc (Nat.le_refl _) (.cells #[.int .i64 0, .int .i64 0] 39))
 go_enter Tryz.func156, Tryz.ntmps156
 go_wp2_with fail
 go_loopw [1, 9] (fun t v wr => ∃ k : Nat, ∃ f : Nat, ∃ l : List Int, k <= s.size /\ t = .int .i64 k /\ l.length <= k /\ Hid (s.size + 1 <= f + k) /\ Hid (za4 s m f k l = R) /\ Hid (AtL w wr v l)) (fun t _ _ => s.size - (intOf t).toNat)
 case atStart => exact ⟨i, s.size + 1, [], hi, by go_num, by simp, show _ <= _ by omega, HR, ⟨HF.out, World.ownsRow_nil _ _ _ _, HB.out⟩⟩
 case round =>
  obtain ⟨k, f, l, hk, rfl, hl, hf, hr, ha⟩ := hrel
  obtain ⟨g, rfl⟩ : ∃ g, f = g + 1 := ⟨f - 1, by have h := hf.out; omega⟩
  clear HR HF HB
  have hlt : w.heap.size < wr.heap.size := ha.out.f.lt
  by_cases hks : k < s.size
  ·have hb := zog hks
   have HC := hO (zai hks)
   by_cases hm1 : chr s k = m
   ·have hr' : Hid (R = .inl (l, k + 1)) := (hr.out.symm.trans (zfl hm1))
    have em : ((s[k].toNat : Int) == m) = true := beq_iff_eq.2 (by rw [<- HC.out]; exact hm1)
    have ht := zd1 ha.out.o
    clear hr hf hm1 hb HC
    obtain ⟨_, c0, c1, f0, f1⟩ := ha.out.f
    go_wp2_with fail
    rw [hr'.out]
    refine bodyPost_ret (v := cuV (.inl (l, k + 1))) (by simp [results, Tryz.results156, go_sem, cuV, *]) rfl ⟨rfl, ?_⟩
    exact zcl ha.out.b (Nat.le_refl _) _ _
   ·have em : ((s[k].toNat : Int) == m) = false := bF (by rw [<- HC.out]; exact hm1)
    have HRB : Hid (∀ w, Calls Tryz.prog 174 #[.string s, .int .i64 k] w fun e w' => e = .returned (byV (zaN s k)) /\ w' = w) := fun w => zgM s k hks (by omega) w
    cases hq : zaN s k with
    | inr pq =>
     obtain ⟨a, c⟩ := pq
     obtain ⟨rfl, hc⟩ := zje hq
     have hr' : Hid (R = .inr (k, c)) := (hr.out.symm.trans (zjg hm1 hks hq))
     have hc0 : (c != 0) = true := bne_iff_ne.2 (by omega)
     rw [hq] at HRB
     dsimp only [byV] at HRB
     clear hr hf hm1 hb HC hq hc
     obtain ⟨_, c0, c1, f0, f1⟩ := ha.out.f
     go_wp2_with fail
     refine (HRB.out _).mono ?_
     rintro e w1 ⟨rfl, rfl⟩
     go_wp2_with fail
     rw [hr'.out]
     refine bodyPost_ret (v := cuV (.inr (k, c))) (by simp [results, Tryz.results156, go_sem, cuV, *]) rfl ⟨rfl, ?_⟩
     exact zcl ha.out.b (Nat.le_refl _) _ _
    | inl p =>
     obtain ⟨b, n⟩ := p
     obtain ⟨b0, b1, b2, b3⟩ := zgF hq
     have hr' : Hid (za4 s m g n (l ++ [b]) = R) := ((zep hm1 hks hq).symm.trans hr.out)
     have hf' : Hid (s.size + 1 <= g + n) := (by have h := hf.out; show _ <= _; omega)
     rw [hq] at HRB
     dsimp only [byV] at HRB
     clear hr hf hm1 hb HC hq
     have hO1 := ha.out.o
     go_wp2_with fail
     refine (HRB.out _).mono ?_
     rintro e w1 ⟨rfl, rfl⟩
     go_wp2_with (at_builtin; refine wpList_append_own _ rfl _ _ 55 rfl (w.heap.size + 1) 5 i0 (.int .u8 0) 1 1 Tryz.underlying55 hinf hz0 hz1 hz2 rfl (by decide) _ _ _ rfl (hO1.alloc _) ⟨w1.heap.size, 0, none⟩ 1 1 [.int .u8 b] rfl rfl (cell_one_new _ _ _) ?c2 ?c3 ?c4 ?c5 ?_)
     case c2 => intro u hu; simp at hu; subst hu; rfl
     case c3 => unfold maxLen; omega
     case c4 => omega
     case c5 => simp; omega
     intro v' w2 hown' hgrow _
     have hle := fun j e => (hO1.lt j e).1
     have HA2 := (show Hid (AtL w w2 v' (l ++ [b])) from (by
      refine ⟨(ha.out.f.alloc (.cells #[.int .u8 b] 5)).grown hgrow (fun e => by have := hle _ e; omega), ?_, (ha.out.b.alloc (by omega) (.cells #[.int .u8 b] 5)).grown hgrow (by simp; omega) (fun j e => by have := hle j e; omega)⟩
      rw [List.length_append, List.map_append]
      exact hown'))
     clear hO1 hown' hgrow hle ha
     go_wp2
     go_roundw
     case rel => exact ⟨n, g, l ++ [b], b3, rfl, by simp; omega, hf', hr', HA2⟩
     case measure => simp [intOf]; omega
  ·have hr' : Hid (R = .inr (k, 22)) := (hr.out.symm.trans ((zjf (by omega) hm).trans (by rw [show k = s.size from by omega])))
   clear hr hf
   obtain ⟨_, c0, c1, f0, f1⟩ := ha.out.f
   go_wp2_with fail
   rw [hr'.out]
   refine bodyPost_ret (v := cuV (.inr (k, 22))) (by simp [results, Tryz.results156, go_sem, cuV, *]) rfl ⟨rfl, ?_⟩
   exact zcl ha.out.b (Nat.le_refl _) _ _
theorem zp1 (s : ByteArray) (i : Int) (w : World) :
  Calls Tryz.prog 139 #[.string s, .int .i64 i] w fun e w' => e = .returned (cuV (zbZ s i)) /\ Below w.heap.size w w' := by
 have HF := hO (FHolds.new w 0 0)
 have HB := hO ((Below.refl w.heap.size w).alloc (Nat.le_refl _) (.cells #[.int .i64 0, .int .i64 0] 39))
 have HP : Hid (∀ w, Calls Tryz.prog 154 #[.string s, .int .i64 i] w fun e w' => e = .returned (.int .i64 (cpE s i)) /\ w' = w) := fun w => ze4 s i w
 by_cases hcp : cpE s i = 0
 ·have hc : ¬ 65536 < s.size /\ ¬ (i < 0 ∨ (s.size : Int) < i) := by
   unfold cpE at hcp; split at hcp
   ·omega
   ·split at hcp
    ·omega
    ·next a b => exact ⟨a, b⟩
  obtain ⟨h1, h2⟩ := hc
  have h0 : 0 <= i := by omega
  obtain ⟨n, rfl⟩ := Int.eq_ofNat_of_zero_le h0
  have HE : Hid (zbZ s (n : Int) = if chr s n = 39 ∨ chr s n = 34 then za4 s (chr s n) (s.size + 1) (n + 1) [] else .inr (n, 20)) := (by show zbZ s (n : Int) = _; unfold zbZ; rw [if_neg h1, if_neg h2, Int.toNat_natCast])
  rw [hcp] at HP
  clear hcp
  by_cases hn : n < s.size
  ·have hnI : (n : Int) < (s.size : Int) := by omega
   have en : ((n : Int) == (s.size : Int)) = false := bF (by omega)
   have HC := hO (zai hn)
   have hb := zog hn
   rw [HC.out] at hb
   have HM : Hid (∀ w, Calls Tryz.prog 155 #[.int .u8 (s[n].toNat : Int)] w fun e w' => e = .returned (.bool (mkB (s[n].toNat : Int))) /\ w' = w) := fun w => zjm _ w
   cases hmk : mkB (s[n].toNat : Int)
   ·have HG := (show Hid (zbZ s (n : Int) = .inr (n, 20)) from (by
     show zbZ s (n : Int) = _
     rw [HE.out, if_neg]
     rw [HC.out]
     unfold mkB at hmk
     simp at hmk
     omega))
    rw [hmk] at HM
    clear HE hmk HC
    go_enter Tryz.func139, Tryz.ntmps139
    go_wp2_with fail
    refine (HP.out _).mono ?_
    rintro e w1 ⟨rfl, rfl⟩
    go_wp2_with fail
    refine (HM.out _).mono ?_
    rintro e w1 ⟨rfl, rfl⟩
    obtain ⟨_, c0, c1, f0, f1⟩ := HF.out
    go_wp2_with fail
    rw [HG.out]
    refine bodyPost_ret (v := cuV (.inr (n, 20))) (by simp [results, Tryz.results139, go_sem, cuV, *]) rfl ⟨rfl, ?_⟩
    exact (Below.refl _ _).alloc (Nat.le_refl _) _
   ·have HG := (show Hid (zbZ s (n : Int) = za4 s (s[n].toNat : Int) (s.size + 1) (n + 1) []) from (by
     show zbZ s (n : Int) = _
     rw [HE.out, if_pos]
     ·rw [HC.out]
     ·rw [HC.out]
      unfold mkB at hmk
      simp at hmk
      omega))
    have HR : Hid (∀ w, Calls Tryz.prog 156 #[.string s, .int .i64 ((n : Int) + 1), .int .u8 (s[n].toNat : Int)] w fun e w' => e = .returned (cuV (za4 s (s[n].toNat : Int) (s.size + 1) (n + 1) [])) /\ Below w.heap.size w w') := fun w => ze5 s (n + 1) _ (by omega) (by omega) (by omega) w
    rw [hmk] at HM
    rw [<- HG.out] at HR
    clear HE hmk HC HG
    generalize zbZ s (n : Int) = R at *
    go_enter Tryz.func139, Tryz.ntmps139
    go_wp2_with fail
    refine (HP.out _).mono ?_
    rintro e w1 ⟨rfl, rfl⟩
    go_wp2_with fail
    refine (HM.out _).mono ?_
    rintro e w1 ⟨rfl, rfl⟩
    go_wp2_with fail
    refine (HR.out _).mono ?_
    rintro e w2 ⟨rfl, hb2⟩
    have HF2 := hO (HF.out.below hb2 HF.out.lt)
    have HB2 := hO (HB.out.trans (hb2.mono HB.out.size))
    have hl : w.heap.size < w2.heap.size := HF2.out.lt
    clear hb2 HR
    obtain ⟨_, c0, c1, f0, f1⟩ := HF2.out
    cases R with
    | inr pq =>
     obtain ⟨a, c⟩ := pq
     dsimp only [cuV]
     go_wp2_with fail
     refine bodyPost_ret (v := cuV (.inr (a, c))) (by simp [results, Tryz.results139, go_sem, cuV, *]) rfl ⟨rfl, ?_⟩
     exact zcl HB2.out (Nat.le_refl _) _ _
    | inl p =>
     obtain ⟨l, e⟩ := p
     dsimp only [cuV]
     go_wp2_with fail
     refine bodyPost_ret (v := cuV (.inl (l, e))) (by simp [results, Tryz.results139, go_sem, cuV, *]) rfl ⟨rfl, ?_⟩
     exact zcl HB2.out (Nat.le_refl _) _ _
  ·have hnI : ¬ (n : Int) < (s.size : Int) := by omega
   have en : ((n : Int) == (s.size : Int)) = true := beq_iff_eq.2 (by omega)
   have HG := (show Hid (zbZ s (n : Int) = .inr (n, 20)) from (by
    show zbZ s (n : Int) = _
    rw [HE.out, if_neg]
    rw [zas hn]
    omega))
   clear HE
   go_enter Tryz.func139, Tryz.ntmps139
   go_wp2_with fail
   refine (HP.out _).mono ?_
   rintro e w1 ⟨rfl, rfl⟩
   obtain ⟨_, c0, c1, f0, f1⟩ := HF.out
   go_wp2_with fail
   rw [HG.out]
   refine bodyPost_ret (v := cuV (.inr (n, 20))) (by simp [results, Tryz.results139, go_sem, cuV, *]) rfl ⟨rfl, ?_⟩
   exact (Below.refl _ _).alloc (Nat.le_refl _) _
 ·have HG := (show Hid (zbZ s i = .inr (0, (cpE s i))) from (by
   show zbZ s i = _
   unfold zbZ cpE at *
   split
   ·rfl
   ·next h =>
    rw [if_neg h] at hcp
    split
    ·rfl
    ·next h2 => rw [if_neg h2] at hcp; exact absurd rfl hcp))
  have ec : (cpE s i != 0) = true := bne_iff_ne.2 hcp
  clear hcp
  generalize cpE s i = c at *
  go_enter Tryz.func139, Tryz.ntmps139
  go_wp2_with fail
  refine (HP.out _).mono ?_
  rintro e w1 ⟨rfl, rfl⟩
  obtain ⟨_, c0, c1, f0, f1⟩ := HF.out
  go_wp2_with fail
  rw [HG.out]
  refine bodyPost_ret (v := cuV (.inr (0, c))) (by simp [results, Tryz.results139, go_sem, cuV, *]) rfl ⟨rfl, ?_⟩
  exact (Below.refl _ _).alloc (Nat.le_refl _) _
end Go.Proofs.YtnpifgcgjgddoaaGreatDoor.Q
namespace Go.Proofs.YtnpifgcgjgddoaaGreatDoor
open Go.RowKit
theorem zcL (s : ByteArray) (b : Nat) (hs : s.size <= 65536) (hb : b <= s.size) (hq : chr s b = 39 ∨ chr s b = 34) (w : World) : Calls Tryz.prog 114 #[.string s, .int .i64 b] w fun e w' => e = .returned (zaT (zeU s b)) /\ Below w.heap.size w w' := by
 have HF : Hid (∀ i e w, Calls Tryz.prog 135 #[.int .i64 i, .int .i64 e] w fun e' w' => e' = .returned (zaE tk0 i e) /\ Below w.heap.size w w') := fun i e w => zax i e w
 have HC : Hid (∀ w, Calls Tryz.prog 139 #[.string s, .int .i64 b] w fun e w' => e = .returned (Q.cuV (Q.zbZ s b)) /\ Below w.heap.size w w') := fun w => Q.zp1 s b w
 have HX : Hid (BX w ((w.alloc (tkO tk0)).alloc (fxO 0 0)) tk0 0 0) := BX.new w
 have HU : Hid (zeU s b = zkE s b (Q.zbZ s b)) := (zil s b hs hb hq).symm
 cases hr : Q.zbZ s b with
 | inr p =>
  obtain ⟨a, c⟩ := p
  obtain ⟨ha, hcc⟩ := zkG hs hb hq hr
  obtain ⟨a, rfl⟩ : ∃ k : Nat, a = k := ⟨a.toNat, by omega⟩
  rw [hr, zkE, Int.toNat_natCast] at HU
  rw [hr] at HC
  clear hr ha hq
  unfold Q.cuV at HC
  rcases hcc with rfl | rfl
  ·have HE : Hid (zeU s b = .inr (a, 51)) := by show zeU s b = _; rw [HU.out, if_pos rfl]
   clear HU
   go_enter Tryz.func114, Tryz.ntmps114
   go_wp2_with fail
   refine (HC.out _).mono ?_
   rintro e w2 ⟨rfl, b2⟩
   have HX2 : Hid (BX w (w2.alloc (fxO a 21)) tk0 0 0) := (HX.out.below b2).below (zaa _ _)
   clear b2 HX HC
   go_wp2_with fail
   refine (HF.out _ _ _).mono ?_
   rintro e w3 ⟨rfl, b3⟩
   have HX3 : Hid (BX w w3 tk0 0 0) := HX2.out.below b3
   clear b3 HX2 HF
   obtain ⟨f0, f1', f2', f3, f4, f5, f6, f7, f8, g0, g1⟩ := HX3.out.fz
   obtain ⟨c0, c1, c2, c3, c4, c5, c6, c7, c8, d0, d1⟩ := HX3.out.cells
   unfold zaE
   go_wp2_with fail
   have HP := HX3.out.put tk0 a 51
   exact zah rfl rfl rfl rfl HP ⟨by rw [HE.out]; rfl, HP.b⟩
  ·by_cases hlt : a < s.size
   ·have HE : Hid (zeU s b = .inr (a, 50)) := by show zeU s b = _; rw [HU.out, if_neg (by decide), if_pos ⟨rfl, by omega⟩]
    have z1 : (a : Int) < (s.size : Int) := by omega
    clear HU
    go_enter Tryz.func114, Tryz.ntmps114
    go_wp2_with fail
    refine (HC.out _).mono ?_
    rintro e w2 ⟨rfl, b2⟩
    have HX2 : Hid (BX w (w2.alloc (fxO a 22)) tk0 0 0) := (HX.out.below b2).below (zaa _ _)
    clear b2 HX HC
    go_wp2_with fail
    refine (HF.out _ _ _).mono ?_
    rintro e w3 ⟨rfl, b3⟩
    have HX3 : Hid (BX w w3 tk0 0 0) := HX2.out.below b3
    clear b3 HX2 HF
    obtain ⟨f0, f1', f2', f3, f4, f5, f6, f7, f8, g0, g1⟩ := HX3.out.fz
    obtain ⟨c0, c1, c2, c3, c4, c5, c6, c7, c8, d0, d1⟩ := HX3.out.cells
    unfold zaE
    go_wp2_with fail
    have HP := HX3.out.put tk0 a 50
    exact zah rfl rfl rfl rfl HP ⟨by rw [HE.out]; rfl, HP.b⟩
   ·have HE : Hid (zeU s b = .inr (b, 52)) := by show zeU s b = _; rw [HU.out, if_neg (by decide), if_neg (by omega)]
    have z1 : ¬ (a : Int) < (s.size : Int) := by omega
    clear HU
    go_enter Tryz.func114, Tryz.ntmps114
    go_wp2_with fail
    refine (HC.out _).mono ?_
    rintro e w2 ⟨rfl, b2⟩
    have HX2 : Hid (BX w (w2.alloc (fxO a 22)) tk0 0 0) := (HX.out.below b2).below (zaa _ _)
    clear b2 HX HC
    go_wp2_with fail
    refine (HF.out _ _ _).mono ?_
    rintro e w3 ⟨rfl, b3⟩
    have HX3 : Hid (BX w w3 tk0 0 0) := HX2.out.below b3
    clear b3 HX2 HF
    obtain ⟨f0, f1', f2', f3, f4, f5, f6, f7, f8, g0, g1⟩ := HX3.out.fz
    obtain ⟨c0, c1, c2, c3, c4, c5, c6, c7, c8, d0, d1⟩ := HX3.out.cells
    unfold zaE
    go_wp2_with fail
    have HP := HX3.out.put tk0 b 52
    exact zah rfl rfl rfl rfl HP ⟨by rw [HE.out]; rfl, HP.b⟩
 | inl p =>
  obtain ⟨l, n⟩ := p
  rw [hr, zkE] at HU
  rw [hr] at HC
  clear hr hq
  replace HC := (show Hid (∀ w, Calls Tryz.prog 139 #[.string s, .int .i64 b] w fun e w' => e = .returned (.tuple #[.string (zac l), .int .i64 n, .agg #[.int .i64 0, .int .i64 0]]) /\ Below w.heap.size w w') from HC)
  have hsz : (zac l).size = l.length := zam l
  by_cases h255 : 255 < l.length
  ·have HE : Hid (zeU s b = .inr (b, 2)) := by show zeU s b = _; rw [HU.out, if_pos h255]
   have z1 : (255 : Int) < ((zac l).size : Int) := by omega
   clear HU hsz h255
   generalize zac l = t at *
   go_enter Tryz.func114, Tryz.ntmps114
   go_wp2_with fail
   refine (HC.out _).mono ?_
   rintro e w2 ⟨rfl, b2⟩
   have HX2 : Hid (BX w (w2.alloc (fxO 0 0)) tk0 0 0) := (HX.out.below b2).below (zaa _ _)
   clear b2 HX HC
   go_wp2_with fail
   refine (HF.out _ _ _).mono ?_
   rintro e w3 ⟨rfl, b3⟩
   have HX3 : Hid (BX w w3 tk0 0 0) := HX2.out.below b3
   clear b3 HX2 HF
   obtain ⟨f0, f1', f2', f3, f4, f5, f6, f7, f8, g0, g1⟩ := HX3.out.fz
   obtain ⟨c0, c1, c2, c3, c4, c5, c6, c7, c8, d0, d1⟩ := HX3.out.cells
   unfold zaE
   go_wp2_with fail
   have HP := HX3.out.put tk0 b 2
   exact zah rfl rfl rfl rfl HP ⟨by rw [HE.out]; rfl, HP.b⟩
  ·have HE : Hid (zeU s b = .inl ⟨2, 0, b, n, zac l, 0, 0, 0, 0⟩) := by show zeU s b = _; rw [HU.out, if_neg h255]
   have z1 : ¬ (255 : Int) < ((zac l).size : Int) := by omega
   clear HU hsz h255 HF
   generalize zac l = t at *
   go_enter Tryz.func114, Tryz.ntmps114
   go_wp2_with fail
   refine (HC.out _).mono ?_
   rintro e w2 ⟨rfl, b2⟩
   have HX2 : Hid (BX w w2 tk0 0 0) := HX.out.below b2
   clear b2 HX HC
   obtain ⟨f0, f1', f2', f3, f4, f5, f6, f7, f8, g0, g1⟩ := HX2.out.fz
   obtain ⟨c0, c1, c2, c3, c4, c5, c6, c7, c8, d0, d1⟩ := HX2.out.cells
   have hsz2 := HX2.out.size
   have hl1 : w.heap.size < w2.heap.size := by omega
   have hne1 : w.heap.size ≠ w2.heap.size := by omega
   have hne2 : w.heap.size + 1 ≠ w2.heap.size := by omega
   go_wp2_with fail
   have HP := (HX2.out.put ⟨2, 0, b, n, t, 0, 0, 0, 0⟩ 0 0).below (zaa _ (fxO 0 0))
   exact zah rfl rfl rfl rfl HP ⟨by rw [HE.out]; rfl, HP.b⟩
def zaA (s : ByteArray) (b : Nat) : Sum Tk (Nat × Int) :=
 if hdB (chr s b) = true then zb0 s b else if dgB (chr s b) = true then nmR s b b 4 else if chr s b = 39 ∨ chr s b = 34 then zeU s b
 else if chr s b = 91 then clT s b (zal s b) else if chr s b = 37 then zcp s b else zbm s b
theorem zp2 (s : ByteArray) (b : Nat) (hs : s.size <= 65536) (hb : b < s.size) (h : hdB (chr s b) = true) (w : World) (hg : SG w) : Calls Tryz.prog 88 #[.string s, .int .i64 b] w fun e w' => e = .returned (zaT (zaA s b)) /\ Below w.heap.size w w' := by
 have HX : Hid (BX w ((w.alloc (tkO tk0)).alloc (fxO 0 0)) tk0 0 0) := BX.new w
 have HG : Hid (SG ((w.alloc (tkO tk0)).alloc (fxO 0 0))) := (hg.later (zaa _ _)).later (zaa _ _)
 have hc := zai hb
 have HH : Hid (∀ w, Calls Tryz.prog 110 #[.int .u8 (s[b].toNat : Int)] w fun e w' => e = .returned (.bool (hdB (chr s b))) /\ w' = w) := fun w => by rw [hc]; exact zaM _ w
 have HD : Hid (∀ w, Calls Tryz.prog 112 #[.int .u8 (s[b].toNat : Int)] w fun e w' => e = .returned (.bool (dgB (chr s b))) /\ w' = w) := fun w => by rw [hc]; exact za5 _ w
 have z0 : (0 : Int) <= (b : Int) := by omega
 have z1 : (b : Int) < (s.size : Int) := by omega
 clear hg
 have HN : Hid (∀ w, Calls Tryz.prog 111 #[.string s, .int .i64 b] w fun e w' => e = .returned (zaT (zb0 s b)) /\ Below w.heap.size w w') := fun w => zcI s b (by omega) (by omega) w
 have HE : Hid (zaA s b = zb0 s b) := by show zaA s b = _; unfold zaA; rw [if_pos h]
 rw [h] at HH
 clear HD HG hc h
 go_enter Tryz.func88, Tryz.ntmps88
 go_wp2_with fail
 refine (HH.out _).mono ?_
 rintro e w1 ⟨rfl, rfl⟩
 clear HH
 go_wp2_with fail
 refine (HN.out _).mono ?_
 rintro e w3 ⟨rfl, b3⟩
 have HX3 : Hid (BX w w3 tk0 0 0) := HX.out.below b3
 clear b3 HX HN
 obtain ⟨f0, f1', f2', f3, f4, f5, f6, f7, f8, g0, g1⟩ := HX3.out.fz
 obtain ⟨c0, c1, c2, c3, c4, c5, c6, c7, c8, d0, d1⟩ := HX3.out.cells
 generalize zb0 s b = r at *
 cases r with
 | inl t =>
  unfold zaT
  go_wp2_with fail
  have HP := HX3.out.put t 0 0
  exact zah rfl rfl rfl rfl HP ⟨by rw [HE.out]; rfl, HP.b⟩
 | inr q =>
  unfold zaT
  go_wp2_with fail
  have HP := HX3.out.put tk0 q.1 q.2
  exact zah rfl rfl rfl rfl HP ⟨by rw [HE.out]; rfl, HP.b⟩
theorem rt_num (s : ByteArray) (b : Nat) (hs : s.size <= 65536) (hb : b < s.size) (h : hdB (chr s b) = false) (h2 : dgB (chr s b) = true) (w : World) (hg : SG w) : Calls Tryz.prog 88 #[.string s, .int .i64 b] w fun e w' => e = .returned (zaT (zaA s b)) /\ Below w.heap.size w w' := by
 have HX : Hid (BX w ((w.alloc (tkO tk0)).alloc (fxO 0 0)) tk0 0 0) := BX.new w
 have HG : Hid (SG ((w.alloc (tkO tk0)).alloc (fxO 0 0))) := (hg.later (zaa _ _)).later (zaa _ _)
 have hc := zai hb
 have HH : Hid (∀ w, Calls Tryz.prog 110 #[.int .u8 (s[b].toNat : Int)] w fun e w' => e = .returned (.bool (hdB (chr s b))) /\ w' = w) := fun w => by rw [hc]; exact zaM _ w
 have HD : Hid (∀ w, Calls Tryz.prog 112 #[.int .u8 (s[b].toNat : Int)] w fun e w' => e = .returned (.bool (dgB (chr s b))) /\ w' = w) := fun w => by rw [hc]; exact za5 _ w
 have z0 : (0 : Int) <= (b : Int) := by omega
 have z1 : (b : Int) < (s.size : Int) := by omega
 clear hg
 have HN : Hid (∀ w, Calls Tryz.prog 113 #[.string s, .int .i64 b, .int .i64 b, .int .i64 4] w fun e w' => e = .returned (zaT (nmR s b b 4)) /\ Below w.heap.size w w') := fun w => zbB s b b 4 (by omega) (by omega) (by omega) w
 have HE : Hid (zaA s b = nmR s b b 4) := by show zaA s b = _; unfold zaA; rw [if_neg (by rw [h]; decide), if_pos h2]
 rw [h] at HH
 rw [h2] at HD
 clear HG hc h h2
 go_enter Tryz.func88, Tryz.ntmps88
 go_wp2_with fail
 refine (HH.out _).mono ?_
 rintro e w1 ⟨rfl, rfl⟩
 clear HH
 go_wp2_with fail
 refine (HD.out _).mono ?_
 rintro e w1 ⟨rfl, rfl⟩
 clear HD
 go_wp2_with fail
 refine (HN.out _).mono ?_
 rintro e w3 ⟨rfl, b3⟩
 have HX3 : Hid (BX w w3 tk0 0 0) := HX.out.below b3
 clear b3 HX HN
 obtain ⟨f0, f1', f2', f3, f4, f5, f6, f7, f8, g0, g1⟩ := HX3.out.fz
 obtain ⟨c0, c1, c2, c3, c4, c5, c6, c7, c8, d0, d1⟩ := HX3.out.cells
 generalize nmR s b b 4 = r at *
 cases r with
 | inl t =>
  unfold zaT
  go_wp2_with fail
  have HP := HX3.out.put t 0 0
  exact zah rfl rfl rfl rfl HP ⟨by rw [HE.out]; rfl, HP.b⟩
 | inr q =>
  unfold zaT
  go_wp2_with fail
  have HP := HX3.out.put tk0 q.1 q.2
  exact zah rfl rfl rfl rfl HP ⟨by rw [HE.out]; rfl, HP.b⟩
theorem zp3 (s : ByteArray) (b : Nat) (hs : s.size <= 65536) (hb : b < s.size) (h : hdB (chr s b) = false) (h2 : dgB (chr s b) = false) (h3 : chr s b = 39) (w : World) (hg : SG w) : Calls Tryz.prog 88 #[.string s, .int .i64 b] w fun e w' => e = .returned (zaT (zaA s b)) /\ Below w.heap.size w w' := by
 have HX : Hid (BX w ((w.alloc (tkO tk0)).alloc (fxO 0 0)) tk0 0 0) := BX.new w
 have HG : Hid (SG ((w.alloc (tkO tk0)).alloc (fxO 0 0))) := (hg.later (zaa _ _)).later (zaa _ _)
 have hc := zai hb
 have HH : Hid (∀ w, Calls Tryz.prog 110 #[.int .u8 (s[b].toNat : Int)] w fun e w' => e = .returned (.bool (hdB (chr s b))) /\ w' = w) := fun w => by rw [hc]; exact zaM _ w
 have HD : Hid (∀ w, Calls Tryz.prog 112 #[.int .u8 (s[b].toNat : Int)] w fun e w' => e = .returned (.bool (dgB (chr s b))) /\ w' = w) := fun w => by rw [hc]; exact za5 _ w
 have z0 : (0 : Int) <= (b : Int) := by omega
 have z1 : (b : Int) < (s.size : Int) := by omega
 clear hg
 have HN : Hid (∀ w, Calls Tryz.prog 114 #[.string s, .int .i64 b] w fun e w' => e = .returned (zaT (zeU s b)) /\ Below w.heap.size w w') := fun w => zcL s b hs (by omega) (.inl h3) w
 have HE : Hid (zaA s b = zeU s b) := by show zaA s b = _; unfold zaA; rw [if_neg (by rw [h]; decide), if_neg (by rw [h2]; decide), if_pos (.inl h3)]
 rw [h] at HH
 rw [h2] at HD
 have v1 : ((s[b].toNat : Int) == 39) = true := by rw [<- hc, h3]; rfl
 clear h3
 clear hc h h2 HG
 go_enter Tryz.func88, Tryz.ntmps88
 go_wp2_with fail
 refine (HH.out _).mono ?_
 rintro e w1 ⟨rfl, rfl⟩
 clear HH
 go_wp2_with fail
 refine (HD.out _).mono ?_
 rintro e w1 ⟨rfl, rfl⟩
 clear HD
 go_wp2_with fail
 refine (HN.out _).mono ?_
 rintro e w3 ⟨rfl, b3⟩
 have HX3 : Hid (BX w w3 tk0 0 0) := HX.out.below b3
 clear b3 HX HN
 obtain ⟨f0, f1', f2', f3, f4, f5, f6, f7, f8, g0, g1⟩ := HX3.out.fz
 obtain ⟨c0, c1, c2, c3, c4, c5, c6, c7, c8, d0, d1⟩ := HX3.out.cells
 generalize zeU s b = r at *
 cases r with
 | inl t =>
  unfold zaT
  go_wp2_with fail
  have HP := HX3.out.put t 0 0
  exact zah rfl rfl rfl rfl HP ⟨by rw [HE.out]; rfl, HP.b⟩
 | inr q =>
  unfold zaT
  go_wp2_with fail
  have HP := HX3.out.put tk0 q.1 q.2
  exact zah rfl rfl rfl rfl HP ⟨by rw [HE.out]; rfl, HP.b⟩
theorem zp4 (s : ByteArray) (b : Nat) (hs : s.size <= 65536) (hb : b < s.size) (h : hdB (chr s b) = false) (h2 : dgB (chr s b) = false) (h3 : chr s b = 34) (w : World) (hg : SG w) : Calls Tryz.prog 88 #[.string s, .int .i64 b] w fun e w' => e = .returned (zaT (zaA s b)) /\ Below w.heap.size w w' := by
 have HX : Hid (BX w ((w.alloc (tkO tk0)).alloc (fxO 0 0)) tk0 0 0) := BX.new w
 have HG : Hid (SG ((w.alloc (tkO tk0)).alloc (fxO 0 0))) := (hg.later (zaa _ _)).later (zaa _ _)
 have hc := zai hb
 have HH : Hid (∀ w, Calls Tryz.prog 110 #[.int .u8 (s[b].toNat : Int)] w fun e w' => e = .returned (.bool (hdB (chr s b))) /\ w' = w) := fun w => by rw [hc]; exact zaM _ w
 have HD : Hid (∀ w, Calls Tryz.prog 112 #[.int .u8 (s[b].toNat : Int)] w fun e w' => e = .returned (.bool (dgB (chr s b))) /\ w' = w) := fun w => by rw [hc]; exact za5 _ w
 have z0 : (0 : Int) <= (b : Int) := by omega
 have z1 : (b : Int) < (s.size : Int) := by omega
 clear hg
 have HN : Hid (∀ w, Calls Tryz.prog 114 #[.string s, .int .i64 b] w fun e w' => e = .returned (zaT (zeU s b)) /\ Below w.heap.size w w') := fun w => zcL s b hs (by omega) (.inr h3) w
 have HE : Hid (zaA s b = zeU s b) := by show zaA s b = _; unfold zaA; rw [if_neg (by rw [h]; decide), if_neg (by rw [h2]; decide), if_pos (.inr h3)]
 rw [h] at HH
 rw [h2] at HD
 have v1 : ((s[b].toNat : Int) == 39) = false := by rw [<- hc, h3]; rfl
 have v2 : ((s[b].toNat : Int) == 34) = true := by rw [<- hc, h3]; rfl
 clear h3
 clear hc h h2 HG
 go_enter Tryz.func88, Tryz.ntmps88
 go_wp2_with fail
 refine (HH.out _).mono ?_
 rintro e w1 ⟨rfl, rfl⟩
 clear HH
 go_wp2_with fail
 refine (HD.out _).mono ?_
 rintro e w1 ⟨rfl, rfl⟩
 clear HD
 go_wp2_with fail
 refine (HN.out _).mono ?_
 rintro e w3 ⟨rfl, b3⟩
 have HX3 : Hid (BX w w3 tk0 0 0) := HX.out.below b3
 clear b3 HX HN
 obtain ⟨f0, f1', f2', f3, f4, f5, f6, f7, f8, g0, g1⟩ := HX3.out.fz
 obtain ⟨c0, c1, c2, c3, c4, c5, c6, c7, c8, d0, d1⟩ := HX3.out.cells
 generalize zeU s b = r at *
 cases r with
 | inl t =>
  unfold zaT
  go_wp2_with fail
  have HP := HX3.out.put t 0 0
  exact zah rfl rfl rfl rfl HP ⟨by rw [HE.out]; rfl, HP.b⟩
 | inr q =>
  unfold zaT
  go_wp2_with fail
  have HP := HX3.out.put tk0 q.1 q.2
  exact zah rfl rfl rfl rfl HP ⟨by rw [HE.out]; rfl, HP.b⟩
theorem rt_cls (s : ByteArray) (b : Nat) (hs : s.size <= 65536) (hb : b < s.size) (h : hdB (chr s b) = false) (h2 : dgB (chr s b) = false) (h3 : chr s b = 91) (w : World) (hg : SG w) : Calls Tryz.prog 88 #[.string s, .int .i64 b] w fun e w' => e = .returned (zaT (zaA s b)) /\ Below w.heap.size w w' := by
 have HX : Hid (BX w ((w.alloc (tkO tk0)).alloc (fxO 0 0)) tk0 0 0) := BX.new w
 have HG : Hid (SG ((w.alloc (tkO tk0)).alloc (fxO 0 0))) := (hg.later (zaa _ _)).later (zaa _ _)
 have hc := zai hb
 have HH : Hid (∀ w, Calls Tryz.prog 110 #[.int .u8 (s[b].toNat : Int)] w fun e w' => e = .returned (.bool (hdB (chr s b))) /\ w' = w) := fun w => by rw [hc]; exact zaM _ w
 have HD : Hid (∀ w, Calls Tryz.prog 112 #[.int .u8 (s[b].toNat : Int)] w fun e w' => e = .returned (.bool (dgB (chr s b))) /\ w' = w) := fun w => by rw [hc]; exact za5 _ w
 have z0 : (0 : Int) <= (b : Int) := by omega
 have z1 : (b : Int) < (s.size : Int) := by omega
 clear hg
 have HN : Hid (∀ w, Calls Tryz.prog 115 #[.string s, .int .i64 b] w fun e w' => e = .returned (zaT (clT s b (zal s b))) /\ Below w.heap.size w w') := fun w => zhF s b (by omega) w
 have HE : Hid (zaA s b = clT s b (zal s b)) := by show zaA s b = _; unfold zaA; rw [if_neg (by rw [h]; decide), if_neg (by rw [h2]; decide), if_neg (by omega), if_pos h3]
 rw [h] at HH
 rw [h2] at HD
 have v1 : ((s[b].toNat : Int) == 39) = false := by rw [<- hc, beq_eq_false_iff_ne]; omega
 have v2 : ((s[b].toNat : Int) == 34) = false := by rw [<- hc, beq_eq_false_iff_ne]; omega
 have v3 : ((s[b].toNat : Int) == 91) = true := by rw [<- hc, h3]; rfl
 clear h3
 clear hc h h2 HG
 go_enter Tryz.func88, Tryz.ntmps88
 go_wp2_with fail
 refine (HH.out _).mono ?_
 rintro e w1 ⟨rfl, rfl⟩
 clear HH
 go_wp2_with fail
 refine (HD.out _).mono ?_
 rintro e w1 ⟨rfl, rfl⟩
 clear HD
 go_wp2_with fail
 refine (HN.out _).mono ?_
 rintro e w3 ⟨rfl, b3⟩
 have HX3 : Hid (BX w w3 tk0 0 0) := HX.out.below b3
 clear b3 HX HN
 obtain ⟨f0, f1', f2', f3, f4, f5, f6, f7, f8, g0, g1⟩ := HX3.out.fz
 obtain ⟨c0, c1, c2, c3, c4, c5, c6, c7, c8, d0, d1⟩ := HX3.out.cells
 generalize clT s b (zal s b) = r at *
 cases r with
 | inl t =>
  unfold zaT
  go_wp2_with fail
  have HP := HX3.out.put t 0 0
  exact zah rfl rfl rfl rfl HP ⟨by rw [HE.out]; rfl, HP.b⟩
 | inr q =>
  unfold zaT
  go_wp2_with fail
  have HP := HX3.out.put tk0 q.1 q.2
  exact zah rfl rfl rfl rfl HP ⟨by rw [HE.out]; rfl, HP.b⟩
theorem rt_pct (s : ByteArray) (b : Nat) (hs : s.size <= 65536) (hb : b < s.size) (h : hdB (chr s b) = false) (h2 : dgB (chr s b) = false) (h3 : chr s b = 37) (w : World) (hg : SG w) : Calls Tryz.prog 88 #[.string s, .int .i64 b] w fun e w' => e = .returned (zaT (zaA s b)) /\ Below w.heap.size w w' := by
 have HX : Hid (BX w ((w.alloc (tkO tk0)).alloc (fxO 0 0)) tk0 0 0) := BX.new w
 have HG : Hid (SG ((w.alloc (tkO tk0)).alloc (fxO 0 0))) := (hg.later (zaa _ _)).later (zaa _ _)
 have hc := zai hb
 have HH : Hid (∀ w, Calls Tryz.prog 110 #[.int .u8 (s[b].toNat : Int)] w fun e w' => e = .returned (.bool (hdB (chr s b))) /\ w' = w) := fun w => by rw [hc]; exact zaM _ w
 have HD : Hid (∀ w, Calls Tryz.prog 112 #[.int .u8 (s[b].toNat : Int)] w fun e w' => e = .returned (.bool (dgB (chr s b))) /\ w' = w) := fun w => by rw [hc]; exact za5 _ w
 have z0 : (0 : Int) <= (b : Int) := by omega
 have z1 : (b : Int) < (s.size : Int) := by omega
 clear hg
 have HN : Hid (∀ w, SG w -> Calls Tryz.prog 116 #[.string s, .int .i64 b] w fun e w' => e = .returned (zaT (zcp s b)) /\ Below w.heap.size w w') := fun w g => zes s b (by omega) (by omega) w g
 have HE : Hid (zaA s b = zcp s b) := by show zaA s b = _; unfold zaA; rw [if_neg (by rw [h]; decide), if_neg (by rw [h2]; decide), if_neg (by omega), if_neg (by omega), if_pos h3]
 rw [h] at HH
 rw [h2] at HD
 have v1 : ((s[b].toNat : Int) == 39) = false := by rw [<- hc, beq_eq_false_iff_ne]; omega
 have v2 : ((s[b].toNat : Int) == 34) = false := by rw [<- hc, beq_eq_false_iff_ne]; omega
 have v3 : ((s[b].toNat : Int) == 91) = false := by rw [<- hc, h3]; rfl
 have v4 : ((s[b].toNat : Int) == 37) = true := by rw [<- hc, h3]; rfl
 clear h3
 clear hc h h2
 go_enter Tryz.func88, Tryz.ntmps88
 go_wp2_with fail
 refine (HH.out _).mono ?_
 rintro e w1 ⟨rfl, rfl⟩
 clear HH
 go_wp2_with fail
 refine (HD.out _).mono ?_
 rintro e w1 ⟨rfl, rfl⟩
 clear HD
 go_wp2_with fail
 refine (HN.out _ HG.out).mono ?_
 rintro e w3 ⟨rfl, b3⟩
 have HX3 : Hid (BX w w3 tk0 0 0) := HX.out.below b3
 clear b3 HX HN HG
 obtain ⟨f0, f1', f2', f3, f4, f5, f6, f7, f8, g0, g1⟩ := HX3.out.fz
 obtain ⟨c0, c1, c2, c3, c4, c5, c6, c7, c8, d0, d1⟩ := HX3.out.cells
 generalize zcp s b = r at *
 cases r with
 | inl t =>
  unfold zaT
  go_wp2_with fail
  have HP := HX3.out.put t 0 0
  exact zah rfl rfl rfl rfl HP ⟨by rw [HE.out]; rfl, HP.b⟩
 | inr q =>
  unfold zaT
  go_wp2_with fail
  have HP := HX3.out.put tk0 q.1 q.2
  exact zah rfl rfl rfl rfl HP ⟨by rw [HE.out]; rfl, HP.b⟩
theorem rt_sgn (s : ByteArray) (b : Nat) (hs : s.size <= 65536) (hb : b < s.size) (h : hdB (chr s b) = false) (h2 : dgB (chr s b) = false) (h3 : ¬ chr s b = 39) (h4 : ¬ chr s b = 34) (h5 : ¬ chr s b = 91) (h6 : ¬ chr s b = 37) (w : World) (hg : SG w) : Calls Tryz.prog 88 #[.string s, .int .i64 b] w fun e w' => e = .returned (zaT (zaA s b)) /\ Below w.heap.size w w' := by
 have HX : Hid (BX w ((w.alloc (tkO tk0)).alloc (fxO 0 0)) tk0 0 0) := BX.new w
 have HG : Hid (SG ((w.alloc (tkO tk0)).alloc (fxO 0 0))) := (hg.later (zaa _ _)).later (zaa _ _)
 have hc := zai hb
 have HH : Hid (∀ w, Calls Tryz.prog 110 #[.int .u8 (s[b].toNat : Int)] w fun e w' => e = .returned (.bool (hdB (chr s b))) /\ w' = w) := fun w => by rw [hc]; exact zaM _ w
 have HD : Hid (∀ w, Calls Tryz.prog 112 #[.int .u8 (s[b].toNat : Int)] w fun e w' => e = .returned (.bool (dgB (chr s b))) /\ w' = w) := fun w => by rw [hc]; exact za5 _ w
 have z0 : (0 : Int) <= (b : Int) := by omega
 have z1 : (b : Int) < (s.size : Int) := by omega
 clear hg
 have HN : Hid (∀ w, SG w -> Calls Tryz.prog 117 #[.string s, .int .i64 b] w fun e w' => e = .returned (zaT (zbm s b)) /\ Below w.heap.size w w') := fun w g => zdK s b (by omega) (by omega) w g
 have HE : Hid (zaA s b = zbm s b) := by show zaA s b = _; unfold zaA; rw [if_neg (by rw [h]; decide), if_neg (by rw [h2]; decide), if_neg (by omega), if_neg h5, if_neg h6]
 rw [h] at HH
 rw [h2] at HD
 have v1 : ((s[b].toNat : Int) == 39) = false := by rw [<- hc, beq_eq_false_iff_ne]; omega
 have v2 : ((s[b].toNat : Int) == 34) = false := by rw [<- hc, beq_eq_false_iff_ne]; omega
 have v3 : ((s[b].toNat : Int) == 91) = false := by rw [<- hc, beq_eq_false_iff_ne]; exact h5
 have v4 : ((s[b].toNat : Int) == 37) = false := by rw [<- hc, beq_eq_false_iff_ne]; exact h6
 clear h3 h4 h5 h6
 clear hc h h2
 go_enter Tryz.func88, Tryz.ntmps88
 go_wp2_with fail
 refine (HH.out _).mono ?_
 rintro e w1 ⟨rfl, rfl⟩
 clear HH
 go_wp2_with fail
 refine (HD.out _).mono ?_
 rintro e w1 ⟨rfl, rfl⟩
 clear HD
 go_wp2_with fail
 refine (HN.out _ HG.out).mono ?_
 rintro e w3 ⟨rfl, b3⟩
 have HX3 : Hid (BX w w3 tk0 0 0) := HX.out.below b3
 clear b3 HX HN HG
 obtain ⟨f0, f1', f2', f3, f4, f5, f6, f7, f8, g0, g1⟩ := HX3.out.fz
 obtain ⟨c0, c1, c2, c3, c4, c5, c6, c7, c8, d0, d1⟩ := HX3.out.cells
 generalize zbm s b = r at *
 cases r with
 | inl t =>
  unfold zaT
  go_wp2_with fail
  have HP := HX3.out.put t 0 0
  exact zah rfl rfl rfl rfl HP ⟨by rw [HE.out]; rfl, HP.b⟩
 | inr q =>
  unfold zaT
  go_wp2_with fail
  have HP := HX3.out.put tk0 q.1 q.2
  exact zah rfl rfl rfl rfl HP ⟨by rw [HE.out]; rfl, HP.b⟩
theorem zf0 (s : ByteArray) (b : Nat) (hs : s.size <= 65536) (hb : b < s.size) (w : World) (hg : SG w) : Calls Tryz.prog 88 #[.string s, .int .i64 b] w fun e w' => e = .returned (zaT (zaA s b)) /\ Below w.heap.size w w' := by
 cases h : hdB (chr s b) with
 | true => exact zp2 s b hs hb h w hg
 | false =>
  cases h2 : dgB (chr s b) with
  | true => exact rt_num s b hs hb h h2 w hg
  | false =>
   by_cases h3 : chr s b = 39
   ·exact zp3 s b hs hb h h2 h3 w hg
   by_cases h4 : chr s b = 34
   ·exact zp4 s b hs hb h h2 h4 w hg
   by_cases h5 : chr s b = 91
   ·exact rt_cls s b hs hb h h2 h5 w hg
   by_cases h6 : chr s b = 37
   ·exact rt_pct s b hs hb h h2 h6 w hg
   ·exact rt_sgn s b hs hb h h2 h3 h4 h5 h6 w hg
theorem zgN (s : ByteArray) : ∀ (f g i : Nat), s.size - i < f -> s.size - i < g -> zjE s f i = zjE s g i := by
 intro f
 induction f with
 | zero => intro g i h; omega
 | succ f ih =>
  intro g i h1 h2
  obtain ⟨g, rfl⟩ : ∃ k, g = k + 1 := ⟨g - 1, by omega⟩
  rw [zjE, zjE]
  by_cases hi : i < s.size
  ·rw [if_pos hi, if_pos hi]
   by_cases hc : chr s i = 45 /\ chr s (i + 1) = 45
   ·rw [if_pos hc, if_pos hc]
    have h3 := (zbr (P := lnB) (s := s) (i := i) (by decide) (by rw [hc.1]; rfl)).2
    have h4 := zbs lnB s (by decide) (i + 1)
    exact ih g _ (by omega) (by omega)
   ·rw [if_neg hc, if_neg hc]
    by_cases hb : chr s i = 9 ∨ chr s i = 10 ∨ chr s i = 13 ∨ chr s i = 32
    ·rw [if_pos hb, if_pos hb]
     exact ih g _ (by omega) (by omega)
    ·rw [if_neg hb, if_neg hb]
  ·rw [if_neg hi, if_neg hi]
theorem zb9 (s : ByteArray) (i : Nat) : zb5 s i = if i < s.size then (if chr s i = 45 /\ chr s (i + 1) = 45 then zb5 s (spN lnB s i) else if chr s i = 9 ∨ chr s i = 10 ∨ chr s i = 13 ∨ chr s i = 32 then zb5 s (i + 1) else i) else i := by
 show zjE s (s.size + 1) i = _
 rw [zjE]
 by_cases hi : i < s.size
 ·rw [if_pos hi, if_pos hi]
  by_cases hc : chr s i = 45 /\ chr s (i + 1) = 45
  ·rw [if_pos hc, if_pos hc]
   have h3 := (zbr (P := lnB) (s := s) (i := i) (by decide) (by rw [hc.1]; rfl)).2
   have h4 := zbs lnB s (by decide) (i + 1)
   exact zgN s _ _ _ (by omega) (by omega)
  ·rw [if_neg hc, if_neg hc]
   by_cases hb : chr s i = 9 ∨ chr s i = 10 ∨ chr s i = 13 ∨ chr s i = 32
   ·rw [if_pos hb, if_pos hb]
    exact zgN s _ _ _ (by omega) (by omega)
   ·rw [if_neg hb, if_neg hb]
 ·rw [if_neg hi, if_neg hi]
theorem blB_iff {c : Int} : blB c = true ↔ (c = 9 ∨ c = 10 ∨ c = 13 ∨ c = 32) := by
 unfold blB
 simp [Bool.or_eq_true, or_assoc]
theorem zdb (s : ByteArray) : ∀ (d i : Nat), s.size - i = d -> zb5 s (spN blB s i) = zb5 s i := by
 intro d
 induction d with
 | zero =>
  intro i hi
  rw [zb7 (by rw [zas (by omega)]; rfl)]
 | succ d ih =>
  intro i hi
  cases h : blB (chr s i) with
  | false => rw [zb7 h]
  | true =>
   obtain ⟨h1, h2⟩ := zbr (by decide) h
   have h3 := blB_iff.1 h
   rw [h2, ih (i + 1) (by omega), zb9 s i, if_pos h1, if_neg (by omega), if_pos h3]
theorem zmU {s : ByteArray} {i : Nat} (h : spN blB s i = s.size) : zb5 s i = s.size := by
 rw [<- zdb s _ i rfl, h, zb9, if_neg (by omega)]
theorem zkH {s : ByteArray} {i : Nat} (h : chr s (spN blB s i) = 45) (h2 : chr s (spN blB s i + 1) = 45) : zb5 s i = zb5 s (spN lnB s (spN blB s i)) /\ spN blB s i < spN lnB s (spN blB s i) := by
 have h3 := zbr (P := lnB) (s := s) (i := spN blB s i) (by decide) (by rw [h]; rfl)
 have h4 := zbs lnB s (by decide) (spN blB s i + 1)
 refine ⟨?_, by omega⟩
 rw [<- zdb s _ i rfl, zb9, if_pos h3.1, if_pos ⟨h, h2⟩]
theorem zkI {s : ByteArray} {i : Nat} (h : spN blB s i < s.size) (h2 : ¬ (chr s (spN blB s i) = 45 /\ chr s (spN blB s i + 1) = 45)) : zb5 s i = spN blB s i := by
 have hb : blB (chr s (spN blB s i)) = false := (za8 blB s (by decide) _ i rfl).2.2.1
 have h3 : ¬ (chr s (spN blB s i) = 9 ∨ chr s (spN blB s i) = 10 ∨ chr s (spN blB s i) = 13 ∨ chr s (spN blB s i) = 32) := fun q => by rw [blB_iff.2 q] at hb; cases hb
 rw [<- zdb s _ i rfl, zb9, if_pos h, if_neg h2, if_neg h3]
end Go.Proofs.YtnpifgcgjgddoaaGreatDoor
namespace Go.Proofs.YtnpifgcgjgddoaaGreatDoor.N
open Go.RowKit
def zhG (E : PE) (z : Nat) : Nat -> List Rl -> Option (Int × Int)
 | _, [] => none
 | all, r :: rs => if (T.ck r.2.2).2 ≠ 0 then some (plA E z r.1, (T.ck r.2.2).2) else if 2048 < all + r.2.2.length then some (plA E z r.1, 2) else zhG E z (all + r.2.2.length) rs
def szR (E : PE) (z : Nat) (rs : List Rl) : Option (Int × Int) := match rs[200]? with
 | some r => some (plA E z r.1, 2)
 | none => zhG E z 0 rs
def mkE (l : List Tk) : PE := ⟨l, rnP, T.tmB⟩
def fin (E : PE) (z : Nat) (r : Sum (List Rl) (Nat × Int)) : Sum (List (ByteArray × List Nd)) (Int × Int) := match r with
 | .inr q => .inr (plA E z q.1, q.2)
 | .inl rs => match szR E z rs with
  | some p => .inr p
  | none => .inl (rs.map fun r => r.2)
def alN (E : PE) : Sum (List Rl) (Nat × Int) := match exN E 0 with
 | .inr q => .inr q
 | .inl p => if p.1 < E.l.length then .inr (p.1, 60) else .inl [(0, ⟨#[]⟩, p.2)]
def paR (s : ByteArray) : Sum (List (ByteArray × List Nd)) (Int × Int) := match zcA (zaA s) s with
 | .inr q => .inr (q.1, q.2)
 | .inl l => fin (mkE l) s.size (alN (mkE l))
end Go.Proofs.YtnpifgcgjgddoaaGreatDoor.N
namespace Go.Proofs.YtnpifgcgjgddoaaGreatDoor
open Go.RowKit
def LxP (w w' : World) (r : Sum (List Tk) (Nat × Int)) (e : Ending) : Prop := match r with
 | .inr q => e = .returned (.tuple #[.slice none 0 0, .agg #[.int .i64 q.1, .int .i64 q.2]])
 | .inl l => ∃ v, e = .returned (.tuple #[v, .agg #[.int .i64 0, .int .i64 0]]) /\ w'.ownsRow w.heap.size 115 9 v l.length (tkc l)
structure AtY (w W : World) (s : ByteArray) (v : Value) (out : List Tk) (i f : Nat) : Prop where
 b : Below w.heap.size w W
 x : FX W w.heap.size 0 0
 g : SG W
 o : W.ownsRow w.heap.size 115 9 v out.length (tkc out)
 hi : i <= s.size
 hf : s.size < f + zb5 s i
 he : zcX (zaA s) s f out (zb5 s i) = zcA (zaA s) s
 hl : out.length <= i
theorem zp5 {W : World} {B n b : Nat} {v : Value} {xs : List Value} {p q : Int} (h : W.ownsRow B 115 9 v n xs) (hx : FX W b p q) (p' q' : Int) : (stF W b p' q').ownsRow B 115 9 v n xs := by
 refine ⟨h.1, ?_⟩
 rcases h.2 with hn | ⟨g, cap, cur, rfl, hB, hgg, rest⟩
 ·exact .inl hn
 ·refine .inr ⟨g, cap, cur, rfl, hB, ?_, rest⟩
  have hne : g ≠ b := by
   rintro rfl
   rw [hx.heap] at hgg
   injection hgg with h1
   injection h1 with h2 h3
   cases h3
  rw [zeh p' q' hne]
  exact hgg
theorem own_ne {W : World} {B n b : Nat} {v : Value} {xs : List Value} {p q : Int} (h : W.ownsRow B 115 9 v n xs) (hx : FX W b p q) : v.ownBlock ≠ some b := by
 rcases h.2 with ⟨rfl, _⟩ | ⟨g, cap, cur, rfl, hB, hgg, rest⟩
 ·intro q; cases q
 ·intro q
  cases q
  rw [hx.heap] at hgg
  injection hgg with h1
  injection h1 with h2 h3
  cases h3
theorem FX.grown {W W' : World} {b : Nat} {p e : Int} {row : Option Nat} (h : FX W b p e) (hg : W.grownBy W' row) (hne : row ≠ some b) : FX W' b p e := ⟨(hg.block b h.lt (fun e => hne e.symm)).trans h.heap⟩
theorem zdp {B : Nat} {w W : World} {b : Nat} (h : Below B w W) (hb : B <= b) (p q : Int) : Below B w (stF W b p q) := (h.setCell (p := ⟨b, 0, none⟩) hb _).setCell (p := ⟨b, 1, none⟩) hb _
theorem zkJ {fn : Func} {R : Ending -> World -> Prop} {a : Act} {W : World} {b : Nat} {p e : Int} {v : Value} (hF : fn.results = #[.tmp 2, .cell 3 39]) (hd : a.defers = []) (h2 : a.tmps.getD 2 undef = v) (h3 : a.tmps.getD 3 undef = .pointer (some ⟨b, 0, none⟩)) (hT : FX W b p e) (hR : R (.returned (.tuple #[v, .agg #[.int .i64 p, .int .i64 e]])) W) : bodyPost Tryz.prog fn R .ret a W := by
 have c0 := hT.c0
 have c1 := hT.c1
 refine bodyPost_ret (v := .tuple #[v, .agg #[.int .i64 p, .int .i64 e]]) ?_ hd hR
 simp only [Array.getD_eq_getD_getElem?] at h2 h3
 simp [results, hF, go_sem, h2, h3, c0, c1]
theorem zp6 (s : ByteArray) (hs : s.size <= 65536)
  (H2 : ∀ b t, b < s.size -> zaA s b = .inl t -> ∃ e : Nat, t.en = e /\ b < e /\ e <= s.size) (H3 : ∀ b q, zaA s b = .inr q -> q.2 ≠ 0) (w : World) (hg : SG w) :
  Calls Tryz.prog 61 #[.string s] w fun e w' => LxP w w' (zcA (zaA s) s) e /\ Below w.heap.size w w' := by
 have t1 : ¬ (65536 : Int) < (s.size : Int) := by omega
 obtain ⟨i0, hinf, hz0, hz1, hz2⟩ := info_parts Tryz.info36
 have HB : Hid (∀ k w, k <= s.size -> Calls Tryz.prog 85 #[.string s, .int .i64 ((k : Nat) : Int)] w fun e w' => e = .returned (.int .i64 (spN blB s k)) /\ w' = w) := fun k w hk => zi4 s k (by omega) hk w
 have HLn : Hid (∀ k w, k <= s.size -> Calls Tryz.prog 87 #[.string s, .int .i64 ((k : Nat) : Int)] w fun e w' => e = .returned (.int .i64 (spN lnB s k)) /\ w' = w) := fun k w hk => zhn s k (by omega) hk w
 have HS : Hid (∀ k w, k <= s.size -> Calls Tryz.prog 86 #[.string s, .int .i64 ((k : Nat) : Int), .string ⟨#[45, 45]⟩] w fun e w' => e = .returned (.bool (pfx s k [45, 45])) /\ w' = w) := fun k w hk => zao s k ⟨#[45, 45]⟩ hk w
 have HO : Hid (∀ b w, b < s.size -> SG w -> Calls Tryz.prog 88 #[.string s, .int .i64 ((b : Nat) : Int)] w fun e w' => e = .returned (zaT (zaA s b)) /\ Below w.heap.size w w') := fun b w hb g => zf0 s b hs hb w g
 have HE : Hid ((∀ b t, b < s.size -> zaA s b = .inl t -> ∃ e : Nat, t.en = e /\ b < e /\ e <= s.size) /\ ∀ b q, zaA s b = .inr q -> q.2 ≠ 0) := ⟨H2, H3⟩
 have HG0 : Hid (SG w) := hg
 have H0 := (show Hid (AtY w (w.alloc (fxO 0 0)) s (.slice none 0 0) [] 0 (s.size + 1)) from
  ⟨zaa _ _, ⟨heap_alloc_new w _⟩, hg.later (zaa _ _), World.ownsRow_nil _ _ _ _, by omega, by have := (zc8 (s := s) (i := 0) (by omega)).1; omega, by unfold zcA; rw [if_neg (by omega)], Nat.le_refl _⟩)
 clear H2 H3 hg
 go_enter Tryz.func61, Tryz.ntmps61
 go_wp2_with fail
 refine ze2 2 0 (fun a' W => ∃ (out : List Tk) (i f : Nat) (v u6 u7 u8 u9 u10 u11 u12 u13 u14 u15 u16 u17 u18 u19 u20 u21 u22 u23 u24 u25 u26 u27 u28 u29 u30 u31 u32 u33 u34 u35 u36 u37 u38 u39 u40 u41 u42 u43 u44 : Value), a' = { tmps := #[.string s, undef, .slice none 0 0, .pointer (some ⟨w.heap.size, 0, none⟩), v, .int .i64 i, u6, u7, u8, u9, u10, u11, u12, u13, u14, u15, u16, u17, u18, u19, u20, u21, u22, u23, u24, u25, u26, u27, u28, u29, u30, u31, u32, u33, u34, u35, u36, u37, u38, u39, u40, u41, u42, u43, u44], defers := [] } /\ Hid (AtY w W s v out i f)) (fun a' _ => s.size - (intOf (a'.tmps.getD 5 undef)).toNat) rfl ?_ ?_
 case refine_2 =>
  rintro a' W ⟨out, i, f, v, u6, u7, u8, u9, u10, u11, u12, u13, u14, u15, u16, u17, u18, u19, u20, u21, u22, u23, u24, u25, u26, u27, u28, u29, u30, u31, u32, u33, u34, u35, u36, u37, u38, u39, u40, u41, u42, u43, u44, rfl, HW⟩
  clear H0
  have hi := HW.out.hi
  have hf := HW.out.hf
  have hol := HW.out.hl
  have hge := zbs blB s (by decide) i
  have hle := zbV blB s (by decide) i hi
  have HBi := (show Hid _ from fun w => HB.out i w hi)
  have HSi := (show Hid _ from fun w => HS.out (spN blB s i) w hle)
  have HLi := (show Hid _ from fun w => HLn.out (spN blB s i) w hle)
  have HGe : Hid (spN blB s i = s.size -> zb5 s i = s.size) := fun h => zmU h
  have HGn : Hid (chr s (spN blB s i) = 45 -> chr s (spN blB s i + 1) = 45 -> zb5 s i = zb5 s (spN lnB s (spN blB s i)) /\ spN blB s i < spN lnB s (spN blB s i)) := fun a b => zkH a b
  have HGh : Hid (spN blB s i < s.size -> ¬ (chr s (spN blB s i) = 45 /\ chr s (spN blB s i + 1) = 45) -> zb5 s i = spN blB s i) := fun a b => zkI a b
  have hle2 := zbV lnB s (by decide) (spN blB s i) hle
  generalize hp : spN blB s i = p at *
  clear HB HS HLn hp
  by_cases hend : p = s.size
  ·have HV : Hid (zcA (zaA s) s = .inl out) := by
    show zcA (zaA s) s = _
    rw [<- HW.out.he, HGe.out hend]
    obtain ⟨f, rfl⟩ : ∃ g, f = g + 1 := ⟨f - 1, by have := HGe.out hend; omega⟩
    rw [zcX, if_neg (by omega)]
   have v1 : ((p : Int) == (s.size : Int)) = true := by rw [hend]; exact beq_self_eq_true _
   have f0 := HW.out.x.f0
   have f1' := HW.out.x.f1
   have c0 := HW.out.x.c0
   have c1 := HW.out.x.c1
   clear HSi HLi HGe HGn HGh HO HE hend
   go_wp2_with fail
   refine (HBi.out _).mono ?_
   rintro e W ⟨rfl, rfl⟩
   clear HBi
   go_wp2_with fail
   refine zkJ rfl rfl rfl rfl (zgr HW.out.x 0 0) ⟨?_, zdp HW.out.b (Nat.le_refl _) 0 0⟩
   rw [HV.out]
   exact ⟨v, rfl, zp5 HW.out.o HW.out.x 0 0⟩
  have v1 : ((p : Int) == (s.size : Int)) = false := by rw [beq_eq_false_iff_ne]; omega
  have hplt : p < s.size := by omega
  by_cases hn : chr s p = 45 /\ chr s (p + 1) = 45
  ·obtain ⟨hg1, hg2⟩ := HGn.out hn.1 hn.2
   have hpf : pfx s p [45, 45] = true := by
    show (chr s p == 45 && (chr s (p + 1) == 45 && true)) = true
    rw [hn.1, hn.2]; rfl
   rw [hpf] at HSi
   generalize spN lnB s p = q at *
   have HW2 : Hid (AtY w W s v out q f) := ⟨HW.out.b, HW.out.x, HW.out.g, HW.out.o, hle2, by have := HW.out.hf; rw [hg1] at this; exact this, by rw [<- hg1]; exact HW.out.he, by have := HW.out.hl; omega⟩
   clear HGe HGn HGh HO HE hend hn hg1 hpf HW
   go_wp2_with fail
   refine (HBi.out _).mono ?_
   rintro e W ⟨rfl, rfl⟩
   clear HBi
   go_wp2_with fail
   refine (HSi.out _).mono ?_
   rintro e W ⟨rfl, rfl⟩
   clear HSi
   go_wp2_with fail
   go_step3
   simp (config := { zetaDelta := true }) only [zbu, zcJ]
   refine zgG rfl ?_
   go_wp2_with fail
   refine (HLi.out _).mono ?_
   rintro e W ⟨rfl, rfl⟩
   clear HLi
   go_wp2_with fail
   go_step3
   simp (config := { zetaDelta := true }) only [zbu]
   refine zkx ⟨⟨out, q, f, v, _, _, _, _, _, _, _, _, _, _, _, _, _, _, _, _, _, _, _, _, _, _, _, _, _, _, _, _, _, _, _, _, _, _, _, _, _, _, _, rfl, HW2⟩, ?_⟩
   simp [intOf]
   omega
  ·have hg1 := HGh.out hplt hn
   have hpf : pfx s p [45, 45] = false := by
    show (chr s p == 45 && (chr s (p + 1) == 45 && true)) = false
    by_cases h1 : chr s p = 45
    ·have h2 : ¬ chr s (p + 1) = 45 := fun q => hn ⟨h1, q⟩
     rw [bF h2]; simp
    ·rw [bF h1]; rfl
   rw [hpf] at HSi
   have HOp : Hid (∀ w, SG w -> Calls Tryz.prog 88 #[.string s, .int .i64 ((p : Nat) : Int)] w fun e w' => e = .returned (zaT (zaA s p)) /\ Below w.heap.size w w') := fun w g => HO.out p w hplt g
   obtain ⟨f, rfl⟩ : ∃ g, f = g + 1 := ⟨f - 1, by omega⟩
   have HU : Hid (zcA (zaA s) s = match zaA s p with
    | .inr q => .inr q
    | .inl t => zcX (zaA s) s f (out ++ [t]) (zb5 s t.en.toNat)) := by show zcA (zaA s) s = _; rw [<- HW.out.he, zcX, hg1, if_pos hplt]; cases zaA s p <;> rfl
   cases ho : zaA s p with
   | inr q =>
    have hne := HE.out.2 p q ho
    have HV : Hid (zcA (zaA s) s = .inr q) := by show zcA (zaA s) s = _; rw [HU.out, ho]
    rw [ho] at HOp
    have t3 : (q.2 != 0) = true := by rw [bne, bF hne]; rfl
    clear HGe HGn HGh HO HE hend hn hg1 hpf HLi HU ho hne
    go_wp2_with fail
    refine (HBi.out _).mono ?_
    rintro e W ⟨rfl, rfl⟩
    clear HBi
    go_wp2_with fail
    refine (HSi.out _).mono ?_
    rintro e W ⟨rfl, rfl⟩
    clear HSi
    go_wp2_with fail
    go_step3
    simp (config := { zetaDelta := true }) only [zbu, zcJ]
    refine zgG rfl ?_
    go_wp2_with fail
    refine (HOp.out _ HW.out.g).mono ?_
    rintro e w3 ⟨rfl, b3⟩
    have HB5 := (show Hid (Below w.heap.size w ((w3.alloc (tkO tk0)).alloc (fxO q.1 q.2)) /\ FX ((w3.alloc (tkO tk0)).alloc (fxO q.1 q.2)) w.heap.size 0 0 /\ FX ((w3.alloc (tkO tk0)).alloc (fxO q.1 q.2)) (w3.heap.size + 1) q.1 q.2) from
     ⟨(((HW.out.b.trans (b3.mono HW.out.b.size)).alloc (Nat.le_trans HW.out.b.size b3.size) _).alloc (by rw [World.size_alloc]; have := HW.out.b.size; have := b3.size; omega) _), ((HW.out.x.below b3).below (zaa _ _)).below (zaa _ _), ⟨by
      have h := heap_alloc_new (w3.alloc (tkO tk0)) (fxO q.1 q.2)
      rw [World.size_alloc] at h
      exact h⟩⟩)
    have hlt3 := (HW.out.x.below b3).lt
    have ne1 : ¬ w3.heap.size + 1 = w.heap.size := by omega
    have ne2 : ¬ w.heap.size = w3.heap.size + 1 := by omega
    clear b3 HW HOp
    unfold zaT zaE
    go_wp2_with fail
    generalize (w3.alloc (tkO tk0)).alloc (fxO q.1 q.2) = w5 at *
    have f0 := HB5.out.2.1.f0
    have f1' := HB5.out.2.1.f1
    have c0 := HB5.out.2.1.c0
    have c1 := HB5.out.2.1.c1
    have k0 := HB5.out.2.2.c0
    have k1 := HB5.out.2.2.c1
    go_region
    all_goals
     go_wp2_with fail
     simp only [zdm]
     refine zkJ rfl rfl rfl rfl ((zgr HB5.out.2.1 q.1 q.2).below (Below.refl _ _).drew) ⟨?_, (zdp HB5.out.1 (Nat.le_refl _) q.1 q.2).drew⟩
     rw [HV.out]
     exact rfl
   | inl t =>
    obtain ⟨en, he1, he2, he3⟩ := HE.out.1 p t hplt ho
    have HV : Hid (zcX (zaA s) s f (out ++ [t]) (zb5 s en) = zcA (zaA s) s) := by show _ = zcA (zaA s) s; rw [HU.out, ho]; show _ = zcX (zaA s) s f (out ++ [t]) (zb5 s t.en.toNat); rw [he1]; rfl
    have hgb := zc8 he3
    have HEn : Hid (t.en = (en : Int)) := he1
    clear he1
    rw [ho] at HOp
    clear HGe HGn HGh HO HE hend hn hpf HLi HU ho
    go_wp2_with fail
    refine (HBi.out _).mono ?_
    rintro e W ⟨rfl, rfl⟩
    clear HBi
    go_wp2_with fail
    refine (HSi.out _).mono ?_
    rintro e W ⟨rfl, rfl⟩
    clear HSi
    go_wp2_with fail
    go_step3
    simp (config := { zetaDelta := true }) only [zbu, zcJ]
    refine zgG rfl ?_
    go_wp2_with fail
    refine (HOp.out _ HW.out.g).mono ?_
    rintro e w3 ⟨rfl, b3⟩
    have hO : w3.ownsRow w.heap.size 115 9 v out.length (tkc out) := ownB HW.out.o b3
    have HB3 : Hid (Below w.heap.size w w3 /\ FX w3 w.heap.size 0 0 /\ SG w3) := ⟨HW.out.b.trans (b3.mono HW.out.b.size), HW.out.x.below b3, HW.out.g.later b3⟩
    have hs3 := HB3.out.1.size
    have HX : Hid (TX ((w3.alloc (tkO t)).alloc (fxO 0 0)) w3.heap.size t) := (TX.new w3 t).below (zaa _ _)
    clear b3 HOp HW
    unfold zaT zaE
    obtain ⟨c0, c1, c2, c3, c4, c5, c6, c7, c8⟩ := HX.out.cells
    go_wp2_with (at_builtin; refine wpList_append_lies _ rfl _ _ 111 rfl w.heap.size 115 i0 (tkG tk0) 9 80 Tryz.underlying111 hinf hz0 hz1 hz2 rfl (by decide) _ _ _ rfl (((hO.alloc _).alloc _).alloc _) ⟨w3.heap.size + 1 + 1, 0, none⟩ 1 1 (tkV t) rfl rfl ?c1 (zn9 _) (by decide) ?c3 ?c4 ?c5 (w3.heap.size + 1 + 1 + 1) (by simp) ?_)
    case c1 =>
     have hh := heap_alloc_new ((w3.alloc (tkO t)).alloc (fxO 0 0)) (.cells (tkC t) 115)
     rw [World.size_alloc, World.size_alloc] at hh
     exact World.news_of_block (cs := tkC t) (t := 115) (fr := (0, 0)) hh
    case c3 => unfold maxLen; omega
    case c4 => omega
    case c5 => first | omega | (simp; omega)
    intro g3 cap w4 hown hgrow hat _
    have hgo : ∀ k, v.ownBlock = some k -> w.heap.size <= k /\ k < w3.heap.size := fun k e => hO.lt k e
    have hne4 := own_ne hO HB3.out.2.1
    have HX4 : Hid (TX w4 w3.heap.size t) := (HX.out.below (zaa _ _)).grown hgrow (fun e => by have := (hgo _ e).2; omega)
    have hb4 : Below w.heap.size w w4 := (((HB3.out.1.alloc hs3 _).alloc (by rw [World.size_alloc]; omega) _).alloc (by rw [World.size_alloc, World.size_alloc]; omega) _).grown hgrow (by rw [World.size_alloc, World.size_alloc, World.size_alloc]; omega) (fun k e => (hgo k e).1)
    have HW4 := (show Hid (AtY w w4 s (.slice (some ⟨g3, 0, none⟩) (out.length + 1) cap) (out ++ [t]) en f) from by
     refine ⟨hb4, (((HB3.out.2.1.below (zaa _ _)).below (zaa _ _)).below (zaa _ _)).grown hgrow hne4, HG0.out.below hb4 HG0.out.lt, ?_, he3, by rw [hg1] at hf; omega, HV.out, by rw [List.length_append, List.length_singleton]; omega⟩
     rw [List.length_append, List.length_singleton, zfg, zjS]
     exact hown)
    have e3 := HX4.out.cells.c3
    rw [HEn.out] at e3
    clear hown hgrow hat hgo hO HB3 HX HV c0 c1 c2 c3 c4 c5 c6 c7 c8 hne4 hb4 HX4
    go_wp2_with fail
    go_step3
    simp (config := { zetaDelta := true }) only []
    refine zkx ⟨⟨out ++ [t], en, f, _, _, _, _, _, _, _, _, _, _, _, _, _, _, _, _, _, _, _, _, _, _, _, _, _, _, _, _, _, _, _, _, _, _, _, _, _, _, _, _, rfl, HW4⟩, ?_⟩
    simp [intOf]
    omega
 case refine_1 =>
  intro hpass
  have HPs := hO hpass
  clear hpass
  go_wp2_with fail
  go_step3
  rename_i hK
  refine hK _ _ ?_
  refine HPs.out _ _ ?_
  exact ⟨[], 0, s.size + 1, .slice none 0 0, _, _, _, _, _, _, _, _, _, _, _, _, _, _, _, _, _, _, _, _, _, _, _, _, _, _, _, _, _, _, _, _, _, _, _, _, _, _, _, rfl, H0⟩
theorem zkK (s : ByteArray) (hs : 65536 < s.size) (w : World) : Calls Tryz.prog 61 #[.string s] w fun e w' => LxP w w' (zcA (zaA s) s) e /\ Below w.heap.size w w' := by
 have t1 : (65536 : Int) < (s.size : Int) := by omega
 have HE : Hid (zcA (zaA s) s = .inr (0, 2)) := by show zcA (zaA s) s = _; unfold zcA; rw [if_pos hs]
 go_enter Tryz.func61, Tryz.ntmps61
 go_wp2_with fail
 refine zaI 1 0 rfl ?_
 go_wp2_with fail
 simp only [zdm]
 refine zkJ (b := w.heap.size) (p := 0) (e := 2) rfl rfl rfl rfl ⟨heap_alloc_new w _⟩ ⟨?_, zaa _ _⟩
 rw [HE.out]
 exact rfl
end Go.Proofs.YtnpifgcgjgddoaaGreatDoor
