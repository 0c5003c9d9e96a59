/- DERIVED. Walks: Clean, by the document. -/
import Derived.Test.YtiillgahnbimjaaDoorClA
import Derived.Maps.AppendAt
namespace Go.Proofs.YtiillgahnbimjaaDoor
open Go.RowKit

/-- What holds in the loop. -/
structure AtD (w wr : World) (v : Value) (l : List Int) : Prop where
  o : wr.ownsRow w.heap.size 5 1 v l.length (u8c l)
  b : Below w.heap.size w wr
theorem dcd_ext {s : ByteArray} {p n : Nat} {r : Int} (h : dcd s p = some (r, n)) : s.extract p (p + n) = asText (enL r) := by
  have hb := dcd_bd h
  obtain ⟨h1, h2, h3⟩ := dcd_some h
  have hl := enL_len h1
  have := (ext_iff (enL_by r) (by omega)).2 h3
  rw [hl, ← h2] at this
  exact this

set_option maxRecDepth 100000 in
set_option maxHeartbeats 4000000 in
theorem cleanR_any (s : ByteArray) (hs : s.size ≤ 16777216) (w : World) : Calls Tryd.prog 15 #[.string s] w fun e w' => e = .returned (.string (asText (cln s))) ∧ Below w.heap.size w w' := by
  obtain ⟨i0, hinf, hz0, hz1, hz2⟩ := info_parts Tryd.info5
  generalize hR : cln s = R
  have HR := (show Hid (clF s s.size 0 [] = R) from hR)
  clear hR
  go_enter Tryd.func15, Tryd.ntmps15
  go_wp2_with fail
  go_loopw [3, 4] (fun v t wr => ∃ f p : Nat, ∃ l : List Int, t = .int .i64 p ∧ l.length ≤ 3 * p ∧ p ≤ s.size ∧ Hid (s.size ≤ f + p) ∧ Hid (clF s f p l = R) ∧ Hid (AtD w wr v l)) (fun _ t _ => s.size - (intOf t).toNat)
  case atStart => exact ⟨s.size, 0, [], by go_num, by simp, by omega, (show _ ≤ _ by omega), HR, ⟨World.ownsRow_nil _ _ _ _, Below.refl _ _⟩⟩
  case round =>
    obtain ⟨f, p, l, rfl, hl, hps, HF, HP, HW⟩ := hrel
    clear HR
    by_cases hp : p < s.size
    · obtain ⟨g, rfl⟩ : ∃ g, f = g + 1 := ⟨f - 1, by have h := HF.out; omega⟩
      have HD : Hid (∀ w, Calls Tryd.prog 33 #[.string s, .int .i64 (p : Int)] w fun e w' => e = .returned (deV (dcd s p)) ∧ Below w.heap.size w w') := fun w => decodeR_in s p hp (by omega) w
      have z1 : (p : Int) < (s.size : Int) := by omega
      cases hd : dcd s p with
      | none =>
        have HP2 := (show Hid (clF s g (p + 1) (l ++ [239, 191, 189]) = R) from (clF_bad hp hd).symm.trans HP.out)
        have HF2 := (show Hid (s.size ≤ g + (p + 1)) from (by have h := HF.out; show _ ≤ _; omega))
        rw [hd] at HD
        dsimp only [deV] at HD
        clear HP HF hd
        go_wp2_with fail
        refine (HD.out _).mono ?_
        rintro e w2 ⟨rfl, hb⟩
        have HB2 := (show Hid (Below w.heap.size w w2) from HW.out.b.trans (hb.mono HW.out.b.size))
        have hO1 := own_below HW.out.o hb
        have hsz := HB2.out.size
        clear hb HW
        go_wp2_with (at_builtin; refine wpList_append_own _ rfl _ _ 65 rfl w.heap.size 5 i0 (.int .u8 0) 1 1 Tryd.underlying65 hinf hz0 hz1 hz2 rfl (by decide) _ _ _ rfl (hO1.alloc _) ⟨w2.heap.size, 0, none⟩ 3 3 [.int .u8 239, .int .u8 191, .int .u8 189] rfl rfl ?c1 ?c2 ?c3 ?c4 ?c5 ?_)
        case c1 =>
          intro j u hj
          match j, hj with
          | 0, hj => simp at hj; subst hj; simp [Addr.add]
          | 1, hj => simp at hj; subst hj; simp [Addr.add]
          | 2, hj => simp at hj; subst hj; simp [Addr.add]
          | (j + 3), hj => simp at hj
        case c2 => intro u hu; simp at hu; rcases hu with rfl | rfl | rfl <;> rfl
        case c3 => unfold maxLen; omega
        case c4 => omega
        case c5 => simp; omega
        intro v' w3 hown' hgrow _
        have hle := fun j e => (hO1.lt j e).1
        have HW3 := (show Hid (AtD w w3 v' (l ++ [239, 191, 189])) from (by
          refine ⟨?_, (HB2.out.alloc (by omega) _).grown hgrow (by simp; omega) (fun j e => by have := hle j e; omega)⟩
          rw [List.length_append, u8c_append]
          exact hown'))
        clear hown' hgrow hle hO1 HB2
        go_wp2
        go_roundw
        case rel => exact ⟨g, p + 1, l ++ [239, 191, 189], by go_num, by simp; omega, by omega, HF2, HP2, HW3⟩
        case measure => simp [intOf]; omega
      | some x =>
        obtain ⟨r, n⟩ := x
        have HP2 := (show Hid (clF s g (p + n) (l ++ enL r) = R) from (clF_step hp hd).symm.trans HP.out)
        have hbd := dcd_bd hd
        have HF2 := (show Hid (s.size ≤ g + (p + n)) from (by have h := HF.out; show _ ≤ _; omega))
        have hsl := cut_run s p n hbd.2.2.2
        rw [dcd_ext hd] at hsl
        have hel : (enL r).length = n := by obtain ⟨h1, h2, _⟩ := dcd_some hd; rw [enL_len h1, h2]
        rw [hd] at HD
        dsimp only [deV] at HD
        have hn1 : 1 ≤ n := hbd.2.1
        have hn2 : p + n ≤ s.size := hbd.2.2.2
        have hwr : IntKind.i64.wrap ((p : Int) + (n : Int)) = (p : Int) + (n : Int) := by rw [IntKind.wrap_i64]; omega
        have HTx := (show Hid ((asText (enL r)).size = n ∧ Lib.strCells (asText (enL r)) = u8c (enL r)) from ⟨by rw [asText_size, hel], strCells_text (enL_by r)⟩)
        have HEl := (show Hid _ from hel)
        clear HP HF hd hbd hel
        generalize asText (enL r) = T at *
        go_wp2_with fail
        refine (HD.out _).mono ?_
        rintro e w2 ⟨rfl, hb⟩
        have HB2 := (show Hid (Below w.heap.size w w2) from HW.out.b.trans (hb.mono HW.out.b.size))
        have hO1 := own_below HW.out.o hb
        have hsz := HB2.out.size
        clear hb HW
        go_wp2_with (at_builtin; refine Lib.wpList_append_own_string _ rfl _ _ 65 9 rfl w.heap.size 5 i0 Tryd.underlying65 Tryd.underlying9 hinf hz0 hz1 hz2 _ _ _ rfl hO1 T rfl ?c3 ?c4 ?c5 ?_)
        case c3 => have := HTx.out.1; unfold maxLen; omega
        case c4 => have := HTx.out.1; omega
        case c5 => omega
        intro v' w3 hown' hgrow _
        have hle := fun j e => (hO1.lt j e).1
        have HW3 := (show Hid (AtD w w3 v' (l ++ enL r)) from (by
          refine ⟨?_, HB2.out.grown hgrow (by omega) (fun j e => by have := hle j e; omega)⟩
          rw [HTx.out.1, HTx.out.2] at hown'
          rw [List.length_append, u8c_append, HEl.out]
          exact hown'))
        clear hown' hgrow hle hO1 HB2
        go_wp2
        go_roundw
        case rel => exact ⟨g, p + n, l ++ enL r, by go_num, by rw [List.length_append, HEl.out]; omega, hn2, HF2, HP2, HW3⟩
        case measure => simp [intOf]; omega
    · have HE := (show Hid (R = l) from HP.out.symm.trans (clF_end hp))
      obtain rfl : p = s.size := by omega
      have ht := text_own HW.out.o
      have b := HW.out.b
      clear HP HF HW
      go_wp2
      go_ret
      exact ⟨by rw [HE.out]; rfl, b⟩
end Go.Proofs.YtiillgahnbimjaaDoor
