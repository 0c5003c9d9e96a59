/- DERIVED. Walks: Points, by the document. -/
import Derived.Test.YtiillgahnbimjaaDoorPoA
namespace Go.Proofs.YtiillgahnbimjaaDoor
open Go.RowKit

/-- What the document's Points answers. -/
def PrV (w w' : World) (s : ByteArray) (e : Ending) : Prop :=
  if 65536 < s.size then e = .returned (.tuple #[.slice none 0 0, .int .i64 0, .int .i64 2]) else
  match pts s with
  | .inr p => e = .returned (.tuple #[.slice none 0 0, .int .i64 (p : Int), .int .i64 6])
  | .inl l => ∃ v, e = .returned (.tuple #[v, .int .i64 0, .int .i64 0]) ∧ w'.ownsRow w.heap.size 3 1 v l.length (inc l)

/-- What holds in the loop. -/
structure AtQ (w wr : World) (v : Value) (l : List Int) : Prop where
  o : wr.ownsRow w.heap.size 3 1 v l.length (inc l)
  b : Below w.heap.size w wr

set_option maxRecDepth 100000 in
set_option maxHeartbeats 4000000 in
theorem pointsR_in (s : ByteArray) (h : s.size ≤ 65536) (w : World) : Calls Tryd.prog 10 #[.string s] w fun e w' => PrV w w' s e ∧ Below w.heap.size w w' := by
  obtain ⟨i0, hinf, hz0, hz1, hz2⟩ := info_parts Tryd.info3
  have HV := (show Hid (∀ w' e, (match pts s with | .inr p => e = .returned (.tuple #[.slice none 0 0, .int .i64 (p : Int), .int .i64 6]) | .inl l => ∃ v, e = .returned (.tuple #[v, .int .i64 0, .int .i64 0]) ∧ w'.ownsRow w.heap.size 3 1 v l.length (inc l)) → PrV w w' s e) from fun w' e he => by
    unfold PrV
    rw [if_neg (by omega)]
    exact he)
  generalize hR : pts s = R at *
  have HR := (show Hid (ptF s s.size 0 [] = R) from hR)
  clear hR
  have hI : ¬ (65536 : Int) < (s.size : Int) := by omega
  go_enter Tryd.func10, Tryd.ntmps10
  go_wp2_with fail
  go_loopw [5, 6] (fun v t wr => ∃ f p : Nat, ∃ l : List Int, t = .int .i64 p ∧ l.length ≤ p ∧ p ≤ s.size ∧ Hid (s.size ≤ f + p) ∧ Hid (ptF s f p l = R) ∧ Hid (AtQ w wr v l)) (fun _ t _ => s.size - (intOf t).toNat)
  case atStart => exact ⟨s.size, 0, [], by go_num, by simp, by omega, (show _ ≤ _ by omega), HR, ⟨World.ownsRow_nil _ _ _ _, Below.refl _ _⟩⟩
  case round =>
    obtain ⟨f, p, l, rfl, hl, hps, HF, HP, HW⟩ := hrel
    clear HR
    by_cases hp : p < s.size
    · obtain ⟨g, rfl⟩ : ∃ g, f = g + 1 := ⟨f - 1, by have h := HF.out; omega⟩
      have HD : Hid (∀ w, Calls Tryd.prog 33 #[.string s, .int .i64 (p : Int)] w fun e w' => e = .returned (deV (dcd s p)) ∧ Below w.heap.size w w') := fun w => decodeR_in s p hp (by omega) w
      have z1 : (p : Int) < (s.size : Int) := by omega
      cases hd : dcd s p with
      | none =>
        have HE := (show Hid (R = .inr p) from HP.out.symm.trans (ptF_bad hp hd))
        rw [hd] at HD
        dsimp only [deV] at HD
        clear HP HF hd
        go_wp2_with fail
        refine (HD.out _).mono ?_
        rintro e w2 ⟨rfl, hb⟩
        have HB2 := (show Hid (Below w.heap.size w w2) from HW.out.b.trans (hb.mono HW.out.b.size))
        clear hb HW
        go_wp2
        go_ret3
        exact ⟨HV.out _ _ (by rw [HE.out]; rfl), HB2.out⟩
      | some x =>
        obtain ⟨r, n⟩ := x
        have HP2 := (show Hid (ptF s g (p + n) (l ++ [r]) = R) from (ptF_step hp hd).symm.trans HP.out)
        have hbd := dcd_bd hd
        have HF2 := (show Hid (s.size ≤ g + (p + n)) from (by have h := HF.out; show _ ≤ _; omega))
        rw [hd] at HD
        dsimp only [deV] at HD
        have hn1 : 1 ≤ n := hbd.2.1
        have hn2 : p + n ≤ s.size := hbd.2.2.2
        clear HP HF hd hbd
        go_wp2_with fail
        refine (HD.out _).mono ?_
        rintro e w2 ⟨rfl, hb⟩
        have HB2 := (show Hid (Below w.heap.size w w2) from HW.out.b.trans (hb.mono HW.out.b.size))
        have hO1 := own_below HW.out.o hb
        have hsz := HB2.out.size
        clear hb HW
        go_wp2_with (at_builtin; refine wpList_append_own _ rfl _ _ 23 rfl w.heap.size 3 i0 (.int .i64 0) 1 8 Tryd.underlying23 hinf hz0 hz1 hz2 rfl (by decide) _ _ _ rfl (hO1.alloc _) ⟨w2.heap.size, 0, none⟩ 1 1 [.int .i64 r] rfl rfl (cell_one_new _ _ _) ?c2 ?c3 ?c4 ?c5 ?_)
        case c2 => intro u hu; simp at hu; subst hu; rfl
        case c3 => unfold maxLen; omega
        case c4 => omega
        case c5 => simp; omega
        intro v' w3 hown' hgrow _
        have hle := fun j e => (hO1.lt j e).1
        have HW3 := (show Hid (AtQ w w3 v' (l ++ [r])) from (by
          refine ⟨?_, (HB2.out.alloc (by omega) _).grown hgrow (by simp; omega) (fun j e => by have := hle j e; omega)⟩
          rw [List.length_append, inc_append]
          exact hown'))
        clear hown' hgrow hle hO1 HB2
        go_wp2
        go_roundw
        case rel => exact ⟨g, p + n, l ++ [r], by go_num, by simp; omega, hn2, HF2, HP2, HW3⟩
        case measure => simp [intOf]; omega
    · have HE := (show Hid (R = .inl l) from HP.out.symm.trans (ptF_end hp))
      obtain rfl : p = s.size := by omega
      have o := HW.out.o
      have b := HW.out.b
      clear HP HF HW
      go_wp2
      go_ret3
      exact ⟨HV.out _ _ (by rw [HE.out]; exact ⟨_, rfl, o⟩), b⟩

set_option maxRecDepth 100000 in
set_option maxHeartbeats 4000000 in
theorem pointsR_any (s : ByteArray) (w : World) : Calls Tryd.prog 10 #[.string s] w fun e w' => PrV w w' s e ∧ Below w.heap.size w w' := by
  by_cases h : 65536 < s.size
  · have HV := (show Hid (∀ w' e, e = .returned (.tuple #[.slice none 0 0, .int .i64 0, .int .i64 2]) → PrV w w' s e) from fun w' e he => by
      unfold PrV
      rw [if_pos h]
      exact he)
    have hI : (65536 : Int) < (s.size : Int) := by omega
    clear h
    go_enter Tryd.func10, Tryd.ntmps10
    go_wp2
    go_ret3
    exact ⟨HV.out _ _ rfl, Below.refl _ _⟩
  · exact pointsR_in s (by omega) w
end Go.Proofs.YtiillgahnbimjaaDoor
