/- DERIVED. Walks: Clean, by the program. -/
import Derived.Test.YtiillgahnbimjabDoorVaA
import Derived.Test.YtiillgahnbimjabDoorRrA
namespace Go.Proofs.YtiillgahnbimjabDoor
open Go.RowKit Go.Shelf

attribute [local go_sem] Oper.semAt_some

/-- The cells of bytes. -/
abbrev u8c (l : List Int) : List Value := l.map (Value.int .u8)
theorem u8c_append (a b : List Int) : u8c (a ++ b) = u8c a ++ u8c b := List.map_append
theorem u8c_rune (r : Int) : Lib.runeCells r = u8c (enL r) := rfl
/-- The text of a row of bytes that the call owns. -/
theorem text_own {w : World} {base : Nat} {v : Value} {l : List Int} (h : w.ownsRow base 5 1 v l.length (u8c l)) :
    (convert 32 9 v).run Tryd.prog w = .ok (.string (asText l)) w := by
  have hc := h
  obtain ⟨hlen, h2⟩ := h
  rcases h2 with ⟨rfl, hn⟩ | ⟨g, cap, cur, rfl, _⟩
  · obtain rfl : l = [] := List.eq_nil_of_length_eq_zero hn
    rw [run_convert_bytes_string w 32 9 5 _ _ _ Tryd.underlying32 Tryd.underlying5 Tryd.underlying9]
    rfl
  · rw [run_convert_bytes_string w 32 9 5 _ _ _ Tryd.underlying32 Tryd.underlying5 Tryd.underlying9]
    refine run_bytesToString w ⟨g, 0, none⟩ l.length cap l ?_
    have := run_loadCells_list (P := Tryd.prog) (w := w) ⟨g, 0, none⟩ (u8c l) (hc.cells rfl)
    rwa [List.length_map] at this

theorem clF_dec {s : ByteArray} {g p : Nat} {l : List Int} (h : p < s.size) : clF s (g + 1) p l = clF s g (p + (Utf8.decode s p).2) (l ++ enL ((Utf8.decode s p).1 : Int)) := by
  cases hd : dcd s p with
  | none =>
    obtain ⟨e1, e2⟩ := dcd_bad h hd
    rw [clF_bad h hd, e1, e2, enc_fffd]
  | some x =>
    obtain ⟨r, n⟩ := x
    obtain ⟨e1, e2⟩ := dcd_dec h hd
    rw [clF_step h hd, e1, e2]
theorem dec_le {s : ByteArray} {p : Nat} (h : p < s.size) : 1 ≤ (Utf8.decode s p).2 ∧ p + (Utf8.decode s p).2 ≤ s.size ∧ (enL ((Utf8.decode s p).1 : Int)).length ≤ 3 * (Utf8.decode s p).2 ∧ (0 : Int) ≤ ((Utf8.decode s p).1 : Int) ∧ ((Utf8.decode s p).1 : Int) ≤ 1114111 := by
  cases hd : dcd s p with
  | none =>
    obtain ⟨e1, e2⟩ := dcd_bad h hd
    rw [e1, e2, enc_fffd]
    exact ⟨by omega, by omega, by simp, by omega, by omega⟩
  | some x =>
    obtain ⟨r, n⟩ := x
    obtain ⟨e1, e2⟩ := dcd_dec h hd
    have hb := dcd_bd hd
    obtain ⟨h1, h2, _⟩ := dcd_some hd
    rw [e1, e2, enL_len h1, h2]
    unfold cp at h1
    have := szI_bd r
    exact ⟨by omega, by omega, by omega, by omega, by omega⟩

/-- What holds in the loop. -/
structure AtC (w wr : World) (s : ByteArray) (p : Nat) (v : Value) (l : List Int) : Prop where
  i : AtI w.heap.size w.heap.size w wr s p
  o : wr.ownsRow (w.heap.size + 1) 5 1 v l.length (u8c l)
theorem AtC.next {w wr : World} {s : ByteArray} {p : Nat} {v : Value} {l : List Int} (h : AtC w wr s p v l) (q : Nat) : AtC w (wr.iterAt w.heap.size s q) s q v l :=
  ⟨h.i.next q, ownsRow_iterAt h.o (by omega) s q⟩
theorem AtI.lt2 {B k0 : Nat} {w wr : World} {s : ByteArray} {p : Nat} (h : AtI B k0 w wr s p) : k0 < wr.heap.size := (Array.getElem?_eq_some_iff.1 h.i).1

set_option maxRecDepth 100000 in
set_option maxHeartbeats 4000000 in
theorem clean_any (s : ByteArray) (hs : s.size ≤ 16777216) (w : World) : Calls Tryd.prog 9 #[.string s] w fun e w' => e = .returned (.string (asText (cln s))) ∧ Below w.heap.size w w' := by
  generalize hR : cln s = R
  have HR := (show Hid (clF s s.size 0 [] = R) from hR)
  clear hR
  have HA := (show Hid (AtC w (w.iter s 0) s 0 (.slice none 0 0) []) from ⟨AtI.new w s, World.ownsRow_nil _ _ _ _⟩)
  go_enter Tryd.func9, Tryd.ntmps9
  go_wp2_with fail
  go_loopw [3] (fun v wr => ∃ f p : Nat, ∃ l : List Int, l.length ≤ 3 * p ∧ p ≤ s.size ∧ Hid (s.size ≤ f + p) ∧ Hid (clF s f p l = R) ∧ Hid (AtC w wr s p v l)) (fun _ wr => s.size - wr.iterPos w.heap.size)
  case atStart => exact ⟨s.size, 0, [], by simp, by omega, (show _ ≤ _ by omega), HR, HA⟩
  case round =>
    obtain ⟨f, p, l, hl, hps, HF, HP, HW⟩ := hrel
    clear HA HR
    by_cases hp : p < s.size
    · obtain ⟨g, rfl⟩ : ∃ g, f = g + 1 := ⟨f - 1, by have h := HF.out; omega⟩
      have hnx : ∀ ty, (Instr.next (.pointer (some ⟨w.heap.size, 0, none⟩)) true ty).run Tryd.prog wr = _ := fun ty => Lib.run_next_any_at wr w.heap.size s p ty HW.out.i.i hp
      have HW2 := (show Hid _ from HW.out.next (p + (Utf8.decode s p).2))
      have HPo := (show Hid _ from HW.out.i.pos)
      have HP2 := (show Hid _ from (clF_dec (g := g) (l := l) hp).symm.trans HP.out)
      obtain ⟨b1, b2, b3, b4, b5⟩ := dec_le hp
      have HF2 := (show Hid (s.size ≤ g + (p + (Utf8.decode s p).2)) from (by have h := HF.out; show _ ≤ _; omega))
      clear HP HF HW
      generalize ((Utf8.decode s p).1 : Int) = r at *
      generalize (Utf8.decode s p).2 = n at *
      generalize wr.iterAt w.heap.size s (p + n) = w1 at *
      have hO1 := HW2.out.o
      have hlt := HW2.out.i.lt2
      have HA : Hid (Calls Tryd.prog 15 #[u3, .int .i32 r] w1 fun e w' => ∃ v', e = .returned v' ∧ w'.ownsRow (w.heap.size + 1) 5 1 v' (l.length + (Lib.runeCells r).length) (u8c l ++ Lib.runeCells r) ∧ ∃ o, (w1.alloc o).grownBy w' u3.ownBlock) := Tryd.utf8_AppendRune_plain (w.heap.size + 1) u3 l.length (u8c l) r (by omega) (by omega) w1 hO1 (by omega) (by omega)
      go_wp2_with fail
      refine HA.out.mono ?_
      rintro e w2 ⟨v', rfl, hown, o, hgrow⟩
      have hle := fun j e => (hO1.lt j e).1
      have HW3 := (show Hid (AtC w w2 s (p + n) v' (l ++ enL r)) from (by
        refine ⟨⟨?_, (HW2.out.i.b.alloc (by omega) _).grown hgrow (by simp; omega) (fun j e => by have := hle j e; omega), HW2.out.i.le⟩, ?_⟩
        · rw [hgrow.block w.heap.size (by simp; omega) (fun e => by have := hle _ e.symm; omega), Below.heap_alloc _ _ _ hlt]
          exact HW2.out.i.i
        · rw [u8c_rune] at hown
          rw [List.length_append, u8c_append]
          rwa [List.length_map] at hown))
      have HPo3 := (show Hid _ from HW3.out.i.pos)
      clear hown hgrow hle hO1 HW2 HA
      go_wp2
      go_roundw
      case rel => exact ⟨g, p + n, l ++ enL r, by rw [List.length_append]; omega, b2, HF2, HP2, HW3⟩
      case measure => rw [HPo3.out, HPo.out]; omega
    · have HE := (show Hid (R = l) from HP.out.symm.trans (clF_end hp))
      have hnx : ∀ ty, (Instr.next (.pointer (some ⟨w.heap.size, 0, none⟩)) true ty).run Tryd.prog wr = _ := fun ty => Lib.run_next_end_at wr w.heap.size s p ty HW.out.i.i hp
      have ht := text_own HW.out.o
      have b := HW.out.i.b
      clear HP HF HW
      go_wp2
      go_ret
      exact ⟨by rw [HE.out]; rfl, b⟩
end Go.Proofs.YtiillgahnbimjabDoor
