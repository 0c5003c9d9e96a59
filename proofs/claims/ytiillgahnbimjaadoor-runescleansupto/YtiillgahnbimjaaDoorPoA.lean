/- DERIVED. Walks: Points, by the program. -/
import Derived.Test.YtiillgahnbimjaaDoorVaA
import Derived.Test.YtiillgahnbimjaaDoorRrA
import Derived.Maps.AppendAt
namespace Go.Proofs.YtiillgahnbimjaaDoor
open Go.RowKit Go.Shelf

attribute [local go_sem] Oper.semAt_some

/-- A box with a fault. -/
structure FHolds (w : World) (b : Nat) (p q : Int) : Prop where
  lt : b < w.heap.size
  c0 : w.cell? ⟨b, 0, none⟩ = some (.int .i64 p)
  c1 : w.cell? ⟨b, 1, none⟩ = some (.int .i64 q)
  f0 : w.frozen? ⟨b, 0, none⟩ = false
  f1 : w.frozen? ⟨b, 1, none⟩ = false
theorem FHolds.below {B : Nat} {w w' : World} {b : Nat} {p q : Int} (h : FHolds w b p q) (hb : Below B w w') (hB : b < B) : FHolds w' b p q :=
  ⟨Nat.lt_of_lt_of_le h.lt hb.size, (hb.cell (p := ⟨b, 0, none⟩) hB).trans h.c0, (hb.cell (p := ⟨b, 1, none⟩) hB).trans h.c1, (hb.frozen (p := ⟨b, 0, none⟩) hB).trans h.f0, (hb.frozen (p := ⟨b, 1, none⟩) hB).trans h.f1⟩
theorem FHolds.new (w : World) (p q : Int) : FHolds (w.alloc (.cells #[.int .i64 p, .int .i64 q] 26)) w.heap.size p q := by
  constructor <;> simp [go_sem]
theorem FHolds.grown {w w' : World} {b : Nat} {p q : Int} {row : Option Nat} (h : FHolds w b p q) (hg : w.grownBy w' row) (hne : row = some b → False) : FHolds w' b p q := by
  have e := hg.block b h.lt (fun e => hne e.symm)
  exact ⟨Nat.lt_of_lt_of_le h.lt hg.size, (World.cell?_of_block (a := ⟨b, 0, none⟩) e).trans h.c0, (World.cell?_of_block (a := ⟨b, 1, none⟩) e).trans h.c1, 
    (World.frozen?_of_block (a := ⟨b, 0, none⟩) e).trans h.f0, (World.frozen?_of_block (a := ⟨b, 1, none⟩) e).trans h.f1⟩
theorem FHolds.alloc {w : World} {b : Nat} {p q : Int} (h : FHolds w b p q) (o : Obj) : FHolds (w.alloc o) b p q :=
  h.below (B := w.heap.size) ((Below.refl _ _).alloc (Nat.le_refl _) _) h.lt
theorem FHolds.put {w : World} {b : Nat} {p q : Int} (h : FHolds w b p q) (p' q' : Int) : FHolds ((w.setCell ⟨b, 0, none⟩ (.int .i64 p')).setCell ⟨b, 1, none⟩ (.int .i64 q')) b p' q' := by
  obtain ⟨lt, c0, c1, f0, f1⟩ := h
  constructor <;> simp [go_sem, *]
theorem FHolds.put_other {w : World} {b c : Nat} {p q : Int} (h : FHolds w c p q) (hne : c ≠ b) (u v : Value) : FHolds ((w.setCell ⟨b, 0, none⟩ u).setCell ⟨b, 1, none⟩ v) c p q := by
  obtain ⟨lt, c0, c1, f0, f1⟩ := h
  constructor <;> simp [go_sem, *]
theorem putF_below {B : Nat} {w wr : World} {b : Nat} (hb : Below B w wr) (h : B ≤ b) (u v : Value) : Below B w ((wr.setCell ⟨b, 0, none⟩ u).setCell ⟨b, 1, none⟩ v) :=
  (hb.setCell (p := ⟨b, 0, none⟩) h _).setCell (p := ⟨b, 1, none⟩) h _


theorem Tryd.info3 : (Tryd.prog.info? 3).map (fun i => (i.zero, i.size, i.bytes)) = some (some (.int .i64 0), 1, 8) := by kernel_rfl
/-- The cells of numbers. -/
abbrev inc (l : List Int) : List Value := l.map (Value.int .i64)
theorem inc_append (a b : List Int) : inc (a ++ b) = inc a ++ inc b := List.map_append
/-- What Points answers. -/
def PtV (w w' : World) (s : ByteArray) (e : Ending) : Prop :=
  if 65536 < s.size then e = .returned (.tuple #[.slice none 0 0, .agg #[.int .i64 0, .int .i64 2]]) else
  match pts s with
  | .inr p => e = .returned (.tuple #[.slice none 0 0, .agg #[.int .i64 (p : Int), .int .i64 6]])
  | .inl l => ∃ v, e = .returned (.tuple #[v, .agg #[.int .i64 0, .int .i64 0]]) ∧ w'.ownsRow w.heap.size 3 1 v l.length (inc l)

/-- What holds in the loop. -/
structure AtP (w wr : World) (s : ByteArray) (p : Nat) (v : Value) (l : List Int) : Prop where
  f : FHolds wr w.heap.size 0 0
  i : AtI w.heap.size (w.heap.size + 1) w wr s p
  o : wr.ownsRow (w.heap.size + 2) 3 1 v l.length (inc l)
theorem AtP.next {w wr : World} {s : ByteArray} {p : Nat} {v : Value} {l : List Int} (h : AtP w wr s p v l) (q : Nat) : AtP w (wr.iterAt (w.heap.size + 1) s q) s q v l :=
  ⟨h.f.below (B := w.heap.size + 1) (Lib.below_iterAt (Below.refl _ _) (Nat.le_refl _) _ _) (by omega), h.i.next q, ownsRow_iterAt h.o (by omega) s q⟩
theorem AtI.lt {B k0 : Nat} {w wr : World} {s : ByteArray} {p : Nat} (h : AtI B k0 w wr s p) : k0 < wr.heap.size := (Array.getElem?_eq_some_iff.1 h.i).1

set_option maxRecDepth 100000 in
set_option maxHeartbeats 4000000 in
theorem points_in (s : ByteArray) (h : s.size ≤ 65536) (w : World) : Calls Tryd.prog 9 #[.string s] w fun e w' => PtV w w' s e ∧ Below w.heap.size w w' := by
  obtain ⟨i0, hinf, hz0, hz1, hz2⟩ := info_parts Tryd.info3
  have HV := (show Hid (∀ w' e, (match pts s with | .inr p => e = .returned (.tuple #[.slice none 0 0, .agg #[.int .i64 (p : Int), .int .i64 6]]) | .inl l => ∃ v, e = .returned (.tuple #[v, .agg #[.int .i64 0, .int .i64 0]]) ∧ w'.ownsRow w.heap.size 3 1 v l.length (inc l)) → PtV w w' s e) from fun w' e he => by
    unfold PtV
    rw [if_neg (by omega)]
    exact he)
  generalize hR : pts s = R at *
  have HR := (show Hid (ptF s s.size 0 [] = R) from hR)
  clear hR
  have hI : ¬ (65536 : Int) < (s.size : Int) := by omega
  have HF := (show Hid _ from FHolds.new w 0 0)
  have HB := (show Hid _ from (Below.refl w.heap.size w).alloc (Nat.le_refl _) (.cells #[.int .i64 0, .int .i64 0] 26))
  have HA := (show Hid (AtP w ((w.alloc (.cells #[.int .i64 0, .int .i64 0] 26)).iter s 0) s 0 (.slice none 0 0) []) from (by
    have hi := World.iter_heap (w.alloc (.cells #[.int .i64 0, .int .i64 0] 26)) s 0
    rw [show (w.alloc (.cells #[.int .i64 0, .int .i64 0] 26)).heap.size = w.heap.size + 1 from by simp] at hi
    have hib := iter_below (w.alloc (.cells #[.int .i64 0, .int .i64 0] 26)) s 0
    exact ⟨HF.out.below hib (by simp), ⟨hi, HB.out.trans (hib.mono (by simp)), by omega⟩, World.ownsRow_nil _ _ _ _⟩))
  clear HF HB
  go_enter Tryd.func9, Tryd.ntmps9
  go_wp2_with fail
  go_loopw [4] (fun v wr => ∃ f p : Nat, ∃ l : List Int, l.length ≤ p ∧ p ≤ s.size ∧ Hid (s.size ≤ f + p) ∧ Hid (ptF s f p l = R) ∧ Hid (AtP w wr s p v l)) (fun _ wr => s.size - wr.iterPos (w.heap.size + 1))
  case atStart => exact ⟨s.size, 0, [], by simp, by omega, (show _ ≤ _ by omega), HR, HA⟩
  case round =>
    obtain ⟨f, p, l, hl, hps, HF, HP, HW⟩ := hrel
    clear HA HR
    by_cases hp : p < s.size
    · obtain ⟨g, rfl⟩ : ∃ g, f = g + 1 := ⟨f - 1, by have h := HF.out; omega⟩
      have HBg : Hid (∀ w, Calls Tryd.prog 32 #[.string (s.extract p s.size), .int .i32 ((Utf8.decode s p).1 : Int)] w fun e w' => e = .returned (.bool (dcd s p).isSome) ∧ w' = w) := fun w => begins_at s p hp w
      have hnx : ∀ ty, (Instr.next (.pointer (some ⟨w.heap.size + 1, 0, none⟩)) true ty).run Tryd.prog wr = _ := fun ty => Lib.run_next_any_at wr (w.heap.size + 1) s p ty HW.out.i.i hp
      have z0 : (0 : Int) ≤ (p : Int) := by omega
      have z1 : (p : Int) ≤ (s.size : Int) := by omega
      have HW2 := (show Hid _ from HW.out.next (p + (Utf8.decode s p).2))
      have HPo := (show Hid _ from HW.out.i.pos)
      cases hd : dcd s p with
      | none =>
        have HE := (show Hid (R = .inr p) from HP.out.symm.trans (ptF_bad hp hd))
        rw [hd] at HBg
        dsimp only [Option.isSome] at HBg
        clear HP HF HW hd
        generalize (Utf8.decode s p).1 = r at *
        generalize (Utf8.decode s p).2 = wd at *
        generalize wr.iterAt (w.heap.size + 1) s (p + wd) = w1 at *
        have c0 := HW2.out.f.c0
        have c1 := HW2.out.f.c1
        have f0 := HW2.out.f.f0
        have f1 := HW2.out.f.f1
        have hlt := HW2.out.f.lt
        go_wp2_with fail
        refine (HBg.out _).mono ?_
        rintro e w2 ⟨rfl, rfl⟩
        go_wp2_with fail
        refine bodyPost_ret (v := .tuple #[.slice none 0 0, .agg #[.int .i64 (p : Int), .int .i64 6]]) (by simp [results, Tryd.results9, go_sem, *]) rfl ⟨?_, ?_⟩
        · exact HV.out _ _ (by rw [HE.out])
        · exact putF_below HW2.out.i.b (Nat.le_refl _) _ _
      | some x =>
        obtain ⟨r, n⟩ := x
        have HP2 := (show Hid (ptF s g (p + n) (l ++ [r]) = R) from (ptF_step hp hd).symm.trans HP.out)
        obtain ⟨e1, e2⟩ := dcd_dec hp hd
        have hbd := dcd_bd hd
        have HF2 := (show Hid (s.size ≤ g + (p + n)) from (by have h := HF.out; show _ ≤ _; omega))
        rw [hd] at HBg
        dsimp only [Option.isSome] at HBg
        rw [e1] at HBg hnx
        rw [e2] at HW2 hnx
        have hn1 : 1 ≤ n := hbd.2.1
        have hn2 : p + n ≤ s.size := hbd.2.2.2
        have wr1 : IntKind.i64.wrap r = r := by have := hbd.1; unfold cp at this; rw [IntKind.wrap_i64]; omega
        clear HP HF HW hd hbd e1 e2
        generalize wr.iterAt (w.heap.size + 1) s (p + n) = w1 at *
        have HPo2 := (show Hid _ from HW2.out.i.pos)
        have hO1 := HW2.out.o
        have hlt := HW2.out.i.lt
        go_wp2_with fail
        refine (HBg.out _).mono ?_
        rintro e w2 ⟨rfl, rfl⟩
        go_wp2_with (at_builtin; refine wpList_append_own _ rfl _ _ 23 rfl (w.heap.size + 2) 3 i0 (.int .i64 0) 1 8 Tryd.underlying23 hinf hz0 hz1 hz2 rfl (by decide) _ _ _ rfl (hO1.alloc _) ⟨w2.heap.size, 0, none⟩ 1 1 [.int .i64 r] rfl rfl (cell_one_new _ _ _) ?c2 ?c3 ?c4 ?c5 ?_)
        case c2 => intro u hu; simp at hu; subst hu; rfl
        case c3 => unfold maxLen; omega
        case c4 => omega
        case c5 => simp; omega
        intro v' w3 hown' hgrow _
        have hle := fun j e => (hO1.lt j e).1
        have HW3 := (show Hid (AtP w w3 s (p + n) v' (l ++ [r])) from (by
          refine ⟨(HW2.out.f.alloc _).grown hgrow (fun e => by have := hle _ e; omega), ⟨?_, (HW2.out.i.b.alloc (by omega) _).grown hgrow (by simp; omega) (fun j e => by have := hle j e; omega), HW2.out.i.le⟩, ?_⟩
          · rw [hgrow.block (w.heap.size + 1) (by simp; omega) (fun e => by have := hle _ e.symm; omega), Below.heap_alloc _ _ _ hlt]
            exact HW2.out.i.i
          · rw [List.length_append, inc_append]
            exact hown'))
        have HPo3 := (show Hid _ from HW3.out.i.pos)
        clear hown' hgrow hle hO1 HW2 HPo2
        go_wp2
        go_roundw
        case rel => exact ⟨g, p + n, l ++ [r], by simp; omega, hn2, HF2, HP2, HW3⟩
        case measure => rw [HPo3.out, HPo.out]; omega
    · have HE := (show Hid (R = .inl l) from HP.out.symm.trans (ptF_end hp))
      have hnx : ∀ ty, (Instr.next (.pointer (some ⟨w.heap.size + 1, 0, none⟩)) true ty).run Tryd.prog wr = _ := fun ty => Lib.run_next_end_at wr (w.heap.size + 1) s p ty HW.out.i.i hp
      have c0 := HW.out.f.c0
      have c1 := HW.out.f.c1
      have f0 := HW.out.f.f0
      have f1 := HW.out.f.f1
      have hlt := HW.out.f.lt
      clear HP HF
      go_wp2_with fail
      refine bodyPost_ret (v := .tuple #[u4, .agg #[.int .i64 0, .int .i64 0]]) (by simp [results, Tryd.results9, go_sem, *]) rfl ⟨?_, ?_⟩
      · refine HV.out _ _ ?_
        rw [HE.out]
        exact ⟨_, rfl, own_base (ownsRow_setCell_below (ownsRow_setCell_below HW.out.o (a := ⟨w.heap.size, 0, none⟩) (by show w.heap.size < _; omega) _) (a := ⟨w.heap.size, 1, none⟩) (by show w.heap.size < _; omega) _) (by omega)⟩
      · exact putF_below HW.out.i.b (Nat.le_refl _) _ _
set_option maxRecDepth 100000 in
set_option maxHeartbeats 4000000 in
theorem points_any (s : ByteArray) (w : World) : Calls Tryd.prog 9 #[.string s] w fun e w' => PtV w w' s e ∧ Below w.heap.size w w' := by
  by_cases h : 65536 < s.size
  · have HV := (show Hid (∀ w' e, e = .returned (.tuple #[.slice none 0 0, .agg #[.int .i64 0, .int .i64 2]]) → PtV w w' s e) from fun w' e he => by
      unfold PtV
      rw [if_pos h]
      exact he)
    have hI : (65536 : Int) < (s.size : Int) := by omega
    have HB := (show Hid _ from (Below.refl w.heap.size w).alloc (Nat.le_refl _) (.cells #[.int .i64 0, .int .i64 2] 26))
    clear h
    go_enter Tryd.func9, Tryd.ntmps9
    go_wp2_with fail
    refine bodyPost_ret (v := .tuple #[.slice none 0 0, .agg #[.int .i64 0, .int .i64 2]]) (by simp [results, Tryd.results9, go_sem]) rfl ⟨?_, ?_⟩
    · exact HV.out _ _ rfl
    · exact HB.out
  · exact points_in s (by omega) w
end Go.Proofs.YtiillgahnbimjaaDoor
