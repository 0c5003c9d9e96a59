/- DERIVED. Walks: Bytes, Count by the document. -/
import Derived.Test.YtlcmlipldkpliaaBys
import Derived.Test.YtlcmlipldkpliaaMixP
import Derived.Maps.AppendAt
namespace Go.Proofs.Ytlcmlipldkpliaa
open Go.RowKit

theorem Try.info5 : (Try.prog.info? 5).map (fun i => (i.zero, i.size, i.bytes)) = some (some (.int .u8 0), 1, 1) := by kernel_rfl

/-- A row that the call owns, behind a call that turned nothing of what was there. -/
theorem own_below {w w' : World} {base e size : Nat} {v : Value} {n : Nat} {xs : List Value} (h : w.ownsRow base e size v n xs) (hb : Below w.heap.size w w') (_hB : base ≤ w.heap.size) : w'.ownsRow base e size v n xs := by
  refine h.kept (row := none) ⟨hb.os, hb.tape, hb.output, hb.size, fun k hk _ => hb.block k hk⟩ ?_
  cases h2 : v.ownBlock
  · exact .inl rfl
  · exact .inr (by simp)

theorem holds_grown {w w' : World} {b : Nat} {x : BitVec 256} {row : Option Nat} (h : Holds w b x) (hg : w.grownBy w' row) (hne : row = some b → False) : Holds w' b x := by
  have e := hg.block b h.lt (fun e => hne e.symm)
  exact ⟨Nat.lt_of_lt_of_le h.lt hg.size, (World.cell?_of_block (a := ⟨b, 0, none⟩) e).trans h.c0, (World.cell?_of_block (a := ⟨b, 1, none⟩) e).trans h.c1, (World.cell?_of_block (a := ⟨b, 2, none⟩) e).trans h.c2, (World.cell?_of_block (a := ⟨b, 3, none⟩) e).trans h.c3,
    (World.frozen?_of_block (a := ⟨b, 0, none⟩) e).trans h.f0, (World.frozen?_of_block (a := ⟨b, 1, none⟩) e).trans h.f1, (World.frozen?_of_block (a := ⟨b, 2, none⟩) e).trans h.f2, (World.frozen?_of_block (a := ⟨b, 3, none⟩) e).trans h.f3⟩

/-- The text of a row of bytes that the call owns. -/
theorem text_own {w : World} {base : Nat} {v : Value} {l : List Int} (h : w.ownsRow base 5 1 v l.length (l.map (Value.int .u8))) :
    (convert 75 9 v).run Try.prog w = .ok (.string (asText l)) w := by
  have hc := h
  obtain ⟨hlen, h2⟩ := h
  rcases h2 with ⟨rfl, hn⟩ | ⟨g, cap, cur, rfl, _⟩
  · obtain rfl : l = [] := List.eq_nil_of_length_eq_zero hn
    rw [run_convert_bytes_string w 75 9 5 _ _ _ Try.underlying75 Try.underlying5 Try.underlying9]
    rfl
  · rw [run_convert_bytes_string w 75 9 5 _ _ _ Try.underlying75 Try.underlying5 Try.underlying9]
    refine run_bytesToString w ⟨g, 0, none⟩ l.length cap l ?_
    have := run_loadCells_list (P := Try.prog) (w := w) ⟨g, 0, none⟩ (l.map (Value.int .u8)) (hc.cells rfl)
    rwa [List.length_map] at this

set_option maxRecDepth 100000 in
set_option maxHeartbeats 1000000 in
theorem bytesR_any (x : BitVec 256) (w : World) :
    Calls Try.prog 26 #[sv x] w fun e w' => e = .returned (.string (asText (bys x))) ∧ Below w.heap.size w w' := by
  obtain ⟨i0, hi, hz0, hz1, hz2⟩ := info_parts Try.info5
  go_enter Try.func26, Try.ntmps26
  go_wp2
  go_loopw [3, 4] (fun v t wr => ∃ k : Nat, k ≤ 256 ∧ t = .int .i64 k ∧ wr.ownsRow (w.heap.size + 1) 5 1 v (bysTo x k).length ((bysTo x k).map (Value.int .u8)) ∧ Holds wr w.heap.size x ∧ Below w.heap.size w wr) (fun _ t _ => 256 - (intOf t).toNat)
  case atStart => exact ⟨0, by omega, rfl, World.ownsRow_nil _ _ _ _, Holds.new w x, (Below.refl _ _).alloc (Nat.le_refl _) _⟩
  case round =>
    obtain ⟨k, hk, rfl, hown, hx, hbel⟩ := hrel
    have hsz : w.heap.size < wr.heap.size := hx.lt
    have HX := (show Hid _ from hx)
    have HO := (show Hid _ from hown)
    have HB := (show Hid _ from hbel)
    have hcl := cntTo_le x.getLsbD k
    by_cases hlt : k < 256
    · have HS := (show Hid _ from bysTo_succ x k)
      have HG := (show Hid _ from hasB_yes x k (by omega) (by omega))
      have hw8 : IntKind.u8.wrap (k : Int) = (k : Int) := by rw [IntKind.wrap_u8']; omega
      obtain ⟨l0, c0, c1, c2, c3, f0, f1, f2, f3⟩ := hx
      clear hown hbel
      cases hb : hasB x k
      · have HE : Hid (bysTo x (k + 1) = bysTo x k) := (by
          have h := HS.out
          rw [HG.out, Int.toNat_natCast] at hb
          rw [hb] at h; exact h)
        go_wp2_with fail
        refine (hasR_any x k _).mono ?_
        rintro e w1 ⟨rfl, hb1⟩
        have hO1 := (show Hid _ from own_below HO.out hb1 (by omega))
        have hB1 := (show Hid _ from HB.out.trans (hb1.mono (by omega)))
        have hX1 := (show Hid _ from HX.out.below hb1 (by omega))
        clear hb1
        go_wp2
        go_roundw
        case rel => exact ⟨k + 1, by omega, by go_num, (by rw [HE.out]; exact hO1.out), hX1.out, hB1.out⟩
        case measure => simp [intOf]; omega
      · have HE : Hid (bysTo x (k + 1) = bysTo x k ++ [(k : Int)]) := (by
          have h := HS.out
          rw [HG.out, Int.toNat_natCast] at hb
          rw [hb] at h; exact h)
        go_wp2_with fail
        refine (hasR_any x k _).mono ?_
        rintro e w1 ⟨rfl, hb1⟩
        have hO1 := own_below HO.out hb1 (by omega)
        have hB1 := (show Hid _ from HB.out.trans (hb1.mono (by omega)))
        have hX1 := (show Hid _ from HX.out.below hb1 (by omega))
        have hsz1 : w.heap.size < w1.heap.size := hX1.out.lt
        have hlen : (bysTo x k).length ≤ 256 := by rw [bysTo_len]; omega
        clear c0 c1 c2 c3 f0 f1 f2 f3 HO HX HB hb1
        go_wp2_with (at_builtin; refine wpList_append_own _ rfl _ _ 75 rfl (w.heap.size + 1) 5 i0 (.int .u8 0) 1 1 Try.underlying75 hi hz0 hz1 hz2 rfl (by decide) _ _ _ rfl (hO1.alloc _) ⟨w1.heap.size, 0, none⟩ 1 1 [.int .u8 k] rfl rfl (cell_one_new _ _ _) ?c2 ?c3 ?c4 ?c5 ?_)
        case c2 => intro u hu; simp at hu; subst hu; rfl
        case c3 => unfold maxLen; omega
        case c4 => omega
        case c5 => simp; omega
        intro v' w2 hown' hgrow _
        have hle := fun j e => (hO1.lt j e).1
        have hB2 := (show Hid _ from (hB1.out.alloc (by omega) (.cells #[.int .u8 k] 5)).grown hgrow (by simp; omega) (fun j e => by have := hle j e; omega))
        have hX2 := (show Hid _ from holds_grown (hX1.out.alloc (.cells #[.int .u8 k] 5)) hgrow (fun e => by have := hle _ e; omega))
        have hO2 := (show Hid _ from hown')
        clear hO1 hown' hgrow hle
        go_wp2
        go_roundw
        case rel =>
          refine ⟨k + 1, by omega, by go_num, ?_, hX2.out, hB2.out⟩
          rw [HE.out, List.length_append, List.map_append]
          exact hO2.out
        case measure => simp [intOf]; omega
    · obtain rfl : k = 256 := by omega
      have HT := (show Hid _ from text_own HO.out)
      clear hown hx hbel
      have ht := HT.out
      go_wp2
      go_ret
      exact ⟨rfl, HB.out⟩
end Go.Proofs.Ytlcmlipldkpliaa
