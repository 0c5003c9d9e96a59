/- DERIVED. Walks: within. -/
import Derived.Test.YtiillgahnbimjabDoorJuB
import Derived.Test.YtiillgahnbimjabDoorWks
import Derived.BigQuiet
namespace Go.Proofs.YtiillgahnbimjabDoor
open Go.RowKit

theorem spl_below {W W' : World} {g off B : Nat} {s : Shape} (h : SpL W g off s) (hb : Below B W W') (hg : g < B) : SpL W' g off s := fun j p hp =>
  ⟨(hb.cell (p := ⟨g, off + j * 2, none⟩) hg).trans (h j p hp).1, (hb.cell (p := ⟨g, off + j * 2 + 1, none⟩) hg).trans (h j p hp).2⟩
theorem drop_get {α : Type} {l : List α} {k : Nat} {x : α} (h : l[k]? = some x) : l.drop k = x :: l.drop (k + 1) := by
  obtain ⟨hk, rfl⟩ := List.getElem?_eq_some_iff.1 h
  exact List.drop_eq_getElem_cons hk

set_option maxRecDepth 100000 in
set_option maxHeartbeats 4000000 in
theorem within_any (s : ByteArray) (sh : Shape) (g c : Nat) (hs : s.size ≤ 1000000) (hl : sh.length ≤ 1000000) (w : World) (lg : g < w.heap.size) (h : SpL w g 0 sh) :
    Calls Tryd.prog 7 #[.string s, .slice (some ⟨g, 0, none⟩) sh.length c] w fun e w' => e = .returned (.bool (inL (byl s) sh)) ∧ Below w.heap.size w w' := by
  by_cases hne : s.size = sh.length
  · have H := (show Hid _ from h)
    have HG := (show Hid (∀ k, k < sh.length → ∃ r, sh[k]? = some r) from fun k hk => ⟨_, List.getElem?_eq_getElem hk⟩)
    have HN := (show Hid _ from hne)
    have hni : (s.size : Int) = (sh.length : Int) := by omega
    clear h hne
    generalize hR : inL (byl s) sh = R at *
    have HR := (show Hid _ from hR)
    clear hR
    go_enter Tryd.func7, Tryd.ntmps7
    go_wp2_with fail
    go_loopw [5] (fun t wr => ∃ k : Nat, k ≤ s.size ∧ t = .int .i64 k ∧ Hid (R = inL ((byl s).drop k) (sh.drop k)) ∧ Hid (Below w.heap.size w wr)) (fun t _ => s.size - (intOf t).toNat)
    case atStart => exact ⟨0, by omega, by go_num, HR.out.symm, Below.refl _ _⟩
    case round =>
      obtain ⟨k, hk, rfl, HE, HW⟩ := hrel
      by_cases hlt : k < s.size
      · obtain ⟨⟨p, q⟩, hr⟩ := HG.out k (by have := HN.out; omega)
        obtain ⟨e1, e2⟩ := (spl_below H.out HW.out lg) k _ hr
        dsimp only at e1 e2
        rw [Nat.zero_add] at e1 e2
        have HE2 := (show Hid (R = (decide (p ≤ (s[k].toNat : Int)) && (decide ((s[k].toNat : Int) ≤ q) && inL ((byl s).drop (k + 1)) (sh.drop (k + 1))))) from (by
          show _ = _
          rw [HE.out, drop_get (byl_get s k hlt), drop_get hr]
          rfl))
        have z0 : (0 : Int) ≤ (k : Int) := by omega
        have z1 : (k : Int) < (s.size : Int) := by omega
        have z2 : (k : Int) < (sh.length : Int) := by omega
        have wa : IntKind.i64.wrap (s[k].toNat : Int) = (s[k].toNat : Int) := by have := s[k].toNat_lt; rw [IntKind.wrap_i64]; omega
        clear hr HG H HN HE HR
        generalize hbb : (s[k].toNat : Int) = b at *
        generalize sh.length = n at *
        by_cases hp : b < p
        · have dp : decide (b < p) = true := decide_eq_true hp
          have HE3 := (show Hid (R = false) from (by show _ = _; rw [HE2.out, decide_eq_false (by omega), Bool.false_and]))
          clear HE2 hp
          go_wp2_with fail
          go_quiet (fail)
          have HW2 := (show Hid (Below w.heap.size w (wr.drewN nq)) from HW.out.trans (below_drewN (Below.refl _ _) _))
          generalize wr.drewN nq = w2 at *
          clear e1 e2 HW
          go_wp2
          go_ret
          exact ⟨by rw [HE3.out]; rfl, HW2.out⟩
        · have dp : decide (b < p) = false := decide_eq_false hp
          by_cases hq : q < b
          · have dq : decide (q < b) = true := decide_eq_true hq
            have HE3 := (show Hid (R = false) from (by show _ = _; rw [HE2.out, decide_eq_false (show ¬ b ≤ q by omega), Bool.false_and, Bool.and_false]))
            clear HE2 hp hq
            go_wp2_with fail
            go_quiet (fail)
            have HW2 := (show Hid (Below w.heap.size w (wr.drewN nq)) from HW.out.trans (below_drewN (Below.refl _ _) _))
            generalize wr.drewN nq = w2 at *
            clear e1 e2 HW
            go_wp2
            go_ret
            exact ⟨by rw [HE3.out]; rfl, HW2.out⟩
          · have dq : decide (q < b) = false := decide_eq_false hq
            have HE3 := (show Hid (R = inL ((byl s).drop (k + 1)) (sh.drop (k + 1))) from (by show _ = _; rw [HE2.out, decide_eq_true (show p ≤ b by omega), decide_eq_true (show b ≤ q by omega), Bool.true_and, Bool.true_and]))
            clear HE2 hp hq
            go_wp2_with fail
            go_quiet (fail)
            have HW2 := (show Hid (Below w.heap.size w (wr.drewN nq)) from HW.out.trans (below_drewN (Below.refl _ _) _))
            generalize wr.drewN nq = w2 at *
            clear e1 e2 HW
            go_wp2
            go_roundw
            case rel => exact ⟨k + 1, by omega, by go_num, HE3, HW2⟩
            case measure => simp [intOf]; omega
      · obtain rfl : k = s.size := by omega
        have HE3 := (show Hid (R = true) from (by
          show _ = _
          rw [HE.out, List.drop_eq_nil_of_le (by rw [byl_len]; exact Nat.le_refl _), List.drop_eq_nil_of_le (by rw [HN.out]; exact Nat.le_refl _)]
          rfl))
        clear HG H HE HR
        go_wp2
        go_ret
        exact ⟨by rw [HE3.out]; rfl, HW.out⟩
  · have hE : inL (byl s) sh = false := by
      cases q : inL (byl s) sh with
      | false => rfl
      | true => exact absurd (by rw [← byl_len]; exact inL_len _ _ q) hne
    rw [hE]
    have hd : ((s.size : Int) != (sh.length : Int)) = true := bne_iff_ne.2 (by omega)
    clear hE h
    generalize sh.length = n at *
    go_enter Tryd.func7, Tryd.ntmps7
    go_wp2
    go_ret
    exact ⟨rfl, Below.refl _ _⟩
end Go.Proofs.YtiillgahnbimjabDoor
