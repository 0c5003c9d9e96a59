/- DERIVED. Walks: FromPoints, by the program and by the document. -/
import Derived.Test.YtiillgahnbimjaaDoorClB
import Derived.Test.YtiillgahnbimjaaDoorPoA
namespace Go.Proofs.YtiillgahnbimjaaDoor
open Go.RowKit

/-- Numbers that lie in memory. -/
structure CI (W : World) (A : Option Addr) (l : List Int) (g off : Nat) : Prop where
  a : A = some ⟨g, off, none⟩
  lt : g < W.heap.size
  c : ∀ k x, l[k]? = some x → W.cell? ⟨g, off + k, none⟩ = some (.int .i64 x)
/-- A list of numbers. -/
def RdI (W : World) (A : Option Addr) (l : List Int) : Prop := l ≠ [] → ∃ g off, CI W A l g off
theorem CI.below {W W' : World} {A : Option Addr} {l : List Int} {g off : Nat} {B : Nat} (h : CI W A l g off) (hb : Below B W W') (hB : g < B) : CI W' A l g off :=
  ⟨h.a, Nat.lt_of_lt_of_le h.lt hb.size, fun k x hk => (hb.cell (p := ⟨g, off + k, none⟩) hB).trans (h.c k x hk)⟩
theorem RdI.below {W W' : World} {A : Option Addr} {l : List Int} (h : RdI W A l) (hb : Below W.heap.size W W') : RdI W' A l := fun hl => by
  obtain ⟨g, off, hc⟩ := h hl
  exact ⟨g, off, hc.below hb hc.lt⟩
theorem ne_of_get {l : List Int} {k : Nat} (h : k < l.length) : l ≠ [] := by rintro rfl; simp at h
theorem okL_take {l : List Int} {k : Nat} {r : Int} (h : okL (l.take k) = true) (hk : l[k]? = some r) (hr : cpB r = true) : okL (l.take (k + 1)) = true := by
  unfold okL at *
  rw [List.take_add_one, hk, List.all_append, h]
  simp [hr]
theorem okL_no {l : List Int} {k : Nat} {r : Int} (hk : l[k]? = some r) (hr : cpB r = false) : okL l = false := by
  unfold okL
  rw [← Bool.not_eq_true, List.all_eq_true]
  intro h
  have := h r (List.mem_of_getElem? hk)
  rw [hr] at this
  cases this
theorem flat_take {l : List Int} {k : Nat} {r : Int} (hk : l[k]? = some r) : (l.take (k + 1)).flatMap enL = (l.take k).flatMap enL ++ enL r := by
  rw [List.take_add_one, hk, List.flatMap_append]; simp
theorem fpV_no {l : List Int} (h : ¬ 4096 < l.length) (ho : okL l = false) : fpV l = .tuple #[.string ⟨#[]⟩, .int .i64 30] := by
  unfold fpV; rw [if_neg h, if_neg (by rw [ho]; simp)]
theorem fpV_yes {l : List Int} (h : ¬ 4096 < l.length) (ho : okL l = true) : fpV l = .tuple #[.string (asText (l.flatMap enL)), .int .i64 0] := by
  unfold fpV; rw [if_neg h, if_pos ho]

set_option maxRecDepth 100000 in
set_option maxHeartbeats 4000000 in
theorem fromPoints_any (A : Option Addr) (c : Nat) (l : List Int) (w : World) (hl : RdI w A l) : Calls Tryd.prog 19 #[.slice A l.length c] w fun e w' => e = .returned (fpV l) ∧ Below w.heap.size w w' := by
  by_cases h4 : 4096 < l.length
  · have HE := (show Hid (fpV l = .tuple #[.string ⟨#[]⟩, .int .i64 2]) from (by show _ = _; unfold fpV; rw [if_pos h4]))
    have hI : (4096 : Int) < (l.length : Int) := by omega
    clear h4 hl
    generalize l.length = n at *
    go_enter Tryd.func19, Tryd.ntmps19
    go_wp2
    go_ret2
    exact ⟨by rw [HE.out]; rfl, Below.refl _ _⟩
  · have hI : ¬ (4096 : Int) < (l.length : Int) := by omega
    have HL := (show Hid _ from hl)
    have HN := (show Hid (∀ k r, l[k]? = some r → cpB r = false → fpV l = .tuple #[.string ⟨#[]⟩, .int .i64 30]) from fun k r hk hr => fpV_no h4 (okL_no hk hr))
    have HY := (show Hid (okL l = true → fpV l = .tuple #[.string (asText (l.flatMap enL)), .int .i64 0]) from fun h => fpV_yes h4 h)
    have HG := (show Hid (∀ k, k < l.length → ∃ r, l[k]? = some r) from fun k hk => ⟨_, List.getElem?_eq_getElem hk⟩)
    have HT := (show Hid (l.take l.length = l) from List.take_length)
    clear hl
    go_enter Tryd.func19, Tryd.ntmps19
    go_wp2_with fail
    go_loopw [4, 12] (fun v t wr => ∃ k : Nat, k ≤ l.length ∧ t = .int .i64 k ∧ Hid (okL (l.take k) = true) ∧ Hid (AtD w wr v ((l.take k).flatMap enL))) (fun _ t _ => l.length - (intOf t).toNat)
    case atStart => exact ⟨0, by omega, by go_num, rfl, ⟨World.ownsRow_nil _ _ _ _, Below.refl _ _⟩⟩
    case round =>
      obtain ⟨k, hk, rfl, HO, HW⟩ := hrel
      by_cases hlt : k < l.length
      · obtain ⟨r, hr⟩ := HG.out k hlt
        obtain ⟨g, off, hc⟩ := HL.out (ne_of_get hlt)
        have hcell := (hc.below HW.out.b hc.lt).c k r hr
        obtain rfl := hc.a
        have z0 : (0 : Int) ≤ (k : Int) := by omega
        have z1 : (k : Int) < (l.length : Int) := by omega
        have HB : Hid (∀ w, Calls Tryd.prog 35 #[.int .i64 r] w fun e w' => e = .returned (.bool (cpB r)) ∧ w' = w) := fun w => isPoint_any r w
        cases hb : cpB r with
        | false =>
          have HE := (show Hid _ from HN.out k r hr hb)
          rw [hb] at HB
          have b := HW.out.b
          clear HN HY HG HL HO HW hr hc hb
          go_wp2_with fail
          refine (HB.out _).mono ?_
          rintro e w2 ⟨rfl, rfl⟩
          go_wp2
          go_ret2
          exact ⟨by rw [HE.out]; rfl, b⟩
        | true =>
          have HO2 := (show Hid _ from okL_take HO.out hr hb)
          have HT2 := (show Hid _ from flat_take hr)
          rw [hb] at HB
          have hcp := cpB_iff.1 hb
          have q1 : IntKind.i32.wrap r = r := by unfold cp at hcp; rw [IntKind.wrap_i32]; omega
          have hrb : 0 ≤ r ∧ r ≤ 1114111 := by unfold cp at hcp; omega
          have hle4 := flat_enL_le (l.take k)
          have hle5 : (l.take k).length ≤ 4096 := by have := List.length_take_le k l; omega
          have hO1 := HW.out.o
          have hsz := HW.out.b.size
          generalize (l.take k).flatMap enL = T at *
          have hTl : T.length ≤ 16384 := by omega
          have HA : Hid (∀ w', w'.ownsRow w.heap.size 5 1 u4 T.length (u8c T) → w.heap.size ≤ w'.heap.size → Calls Tryd.prog 34 #[u4, .int .i32 r] w' fun e w'' => ∃ v', e = .returned v' ∧ w''.ownsRow w.heap.size 5 1 v' (T.length + (Lib.runeCells r).length) (u8c T ++ Lib.runeCells r) ∧ ∃ o, (w'.alloc o).grownBy w'' u4.ownBlock) := fun w' ho hz => Tryd.utf8_AppendRune_plain w.heap.size u4 T.length (u8c T) r (by omega) (by omega) w' ho (by omega) hz
          have hle := fun j e => (hO1.lt j e).1
          have HW1 := (show Hid _ from HW.out.b)
          clear HN HY HG HO hr hc hb hcp hle4 hle5 HW
          go_wp2_with fail
          refine (HB.out _).mono ?_
          rintro e w2 ⟨rfl, rfl⟩
          go_wp2_with fail
          refine (HA.out _ hO1 hsz).mono ?_
          rintro e w3 ⟨v', rfl, hown, o, hgrow⟩
          have HW3 := (show Hid (AtD w w3 v' ((l.take (k + 1)).flatMap enL)) from (by
            rw [HT2.out]
            refine ⟨?_, (HW1.out.alloc (by omega) _).grown hgrow (by simp; omega) (fun j e => by have := hle j e; omega)⟩
            rw [u8c_rune] at hown
            rw [List.length_append, u8c_append]
            rwa [List.length_map] at hown))
          clear hown hgrow hle hO1 HW1 HA
          go_wp2
          go_roundw
          case rel => exact ⟨k + 1, by omega, by go_num, HO2, HW3⟩
          case measure => simp [intOf]; omega
      · obtain rfl : k = l.length := by omega
        rw [HT.out] at HO HW
        have HE := (show Hid _ from HY.out HO.out)
        have ht := text_own HW.out.o
        have b := HW.out.b
        clear HN HY HG HL HO HW HT
        generalize l.length = n at *
        go_wp2
        go_ret2
        exact ⟨by rw [HE.out]; rfl, b⟩

set_option maxRecDepth 100000 in
set_option maxHeartbeats 4000000 in
theorem fromPointsR_any (A : Option Addr) (c : Nat) (l : List Int) (w : World) (hl : RdI w A l) : Calls Tryd.prog 20 #[.slice A l.length c] w fun e w' => e = .returned (fpV l) ∧ Below w.heap.size w w' := by
  obtain ⟨i0, hinf, hz0, hz1, hz2⟩ := info_parts Tryd.info5
  by_cases h4 : 4096 < l.length
  · have HE := (show Hid (fpV l = .tuple #[.string ⟨#[]⟩, .int .i64 2]) from (by show _ = _; unfold fpV; rw [if_pos h4]))
    have hI : (4096 : Int) < (l.length : Int) := by omega
    clear h4 hl
    generalize l.length = n at *
    go_enter Tryd.func20, Tryd.ntmps20
    go_wp2
    go_ret2
    exact ⟨by rw [HE.out]; rfl, Below.refl _ _⟩
  · have hI : ¬ (4096 : Int) < (l.length : Int) := by omega
    have HL := (show Hid _ from hl)
    have HN := (show Hid (∀ k r, l[k]? = some r → cpB r = false → fpV l = .tuple #[.string ⟨#[]⟩, .int .i64 30]) from fun k r hk hr => fpV_no h4 (okL_no hk hr))
    have HY := (show Hid (okL l = true → fpV l = .tuple #[.string (asText (l.flatMap enL)), .int .i64 0]) from fun h => fpV_yes h4 h)
    have HG := (show Hid (∀ k, k < l.length → ∃ r, l[k]? = some r) from fun k hk => ⟨_, List.getElem?_eq_getElem hk⟩)
    have HT := (show Hid (l.take l.length = l) from List.take_length)
    clear hl
    go_enter Tryd.func20, Tryd.ntmps20
    go_wp2_with fail
    go_loopw [4, 5] (fun v t wr => ∃ k : Nat, k ≤ l.length ∧ t = .int .i64 k ∧ Hid (okL (l.take k) = true) ∧ Hid (AtD w wr v ((l.take k).flatMap enL))) (fun _ t _ => l.length - (intOf t).toNat)
    case atStart => exact ⟨0, by omega, by go_num, rfl, ⟨World.ownsRow_nil _ _ _ _, Below.refl _ _⟩⟩
    case round =>
      obtain ⟨k, hk, rfl, HO, HW⟩ := hrel
      by_cases hlt : k < l.length
      · obtain ⟨r, hr⟩ := HG.out k hlt
        obtain ⟨g, off, hc⟩ := HL.out (ne_of_get hlt)
        have hcell := (hc.below HW.out.b hc.lt).c k r hr
        obtain rfl := hc.a
        have z0 : (0 : Int) ≤ (k : Int) := by omega
        have z1 : (k : Int) < (l.length : Int) := by omega
        have HB : Hid (∀ w, Calls Tryd.prog 36 #[.int .i64 r] w fun e w' => e = .returned (.bool (cpB r)) ∧ w' = w) := fun w => isR_any r w
        cases hb : cpB r with
        | false =>
          have HE := (show Hid _ from HN.out k r hr hb)
          rw [hb] at HB
          have b := HW.out.b
          clear HN HY HG HL HO HW hr hc hb
          go_wp2_with fail
          refine (HB.out _).mono ?_
          rintro e w2 ⟨rfl, rfl⟩
          go_wp2
          go_ret2
          exact ⟨by rw [HE.out]; rfl, b⟩
        | true =>
          have HO2 := (show Hid _ from okL_take HO.out hr hb)
          have HT2 := (show Hid _ from flat_take hr)
          rw [hb] at HB
          have hcp := cpB_iff.1 hb
          have HC : Hid (∀ w, Calls Tryd.prog 37 #[.int .i64 r] w fun e w' => e = .returned (.string (Utf8.encode r)) ∧ Below w.heap.size w w') := fun w => codeR_any r hcp w
          rw [encode_eq hcp] at HC
          have HTx := (show Hid ((asText (enL r)).size = (enL r).length ∧ Lib.strCells (asText (enL r)) = u8c (enL r)) from ⟨asText_size _, strCells_text (enL_by r)⟩)
          have HEl := (show Hid _ from enL_le r)
          have hle4 := flat_enL_le (l.take k)
          have hle5 : (l.take k).length ≤ 4096 := by have := List.length_take_le k l; omega
          have hO1 := HW.out.o
          have hsz := HW.out.b.size
          generalize (l.take k).flatMap enL = T at *
          have hTl : T.length ≤ 16384 := by omega
          have HW1 := (show Hid _ from HW.out.b)
          have HO1 := (show Hid _ from hO1)
          clear HN HY HG HO hr hb hcp hle4 hle5 HW hO1
          generalize asText (enL r) = X at *
          go_wp2_with fail
          refine (HB.out _).mono ?_
          rintro e w2 ⟨rfl, rfl⟩
          go_wp2_with fail
          refine (HC.out _).mono ?_
          rintro e w3 ⟨rfl, hb⟩
          have HB2 := (show Hid (Below w.heap.size w w3) from HW1.out.trans (hb.mono HW1.out.size))
          have hO1 := own_below HO1.out hb
          have hsz2 := HB2.out.size
          clear hb HW1 HO1 hcell hc
          go_wp2_with (at_builtin; refine Lib.wpList_append_own_string _ rfl _ _ 65 9 rfl w.heap.size 5 i0 Tryd.underlying65 Tryd.underlying9 hinf hz0 hz1 hz2 _ _ _ rfl hO1 X rfl ?c3 ?c4 ?c5 ?_)
          case c3 => have := HTx.out.1; have := HEl.out; unfold maxLen; omega
          case c4 => have := HTx.out.1; have := HEl.out; omega
          case c5 => omega
          intro v' w4 hown hgrow _
          have hle := fun j e => (hO1.lt j e).1
          have HW3 := (show Hid (AtD w w4 v' ((l.take (k + 1)).flatMap enL)) from (by
            rw [HT2.out]
            refine ⟨?_, HB2.out.grown hgrow (by omega) (fun j e => by have := hle j e; omega)⟩
            rw [HTx.out.1, HTx.out.2] at hown
            rw [List.length_append, u8c_append]
            exact hown))
          clear hown hgrow hle hO1 HB2
          go_wp2
          go_roundw
          case rel => exact ⟨k + 1, by omega, by go_num, HO2, HW3⟩
          case measure => simp [intOf]; omega
      · obtain rfl : k = l.length := by omega
        rw [HT.out] at HO HW
        have HE := (show Hid _ from HY.out HO.out)
        have ht := text_own HW.out.o
        have b := HW.out.b
        clear HN HY HG HL HO HW HT
        generalize l.length = n at *
        go_wp2
        go_ret2
        exact ⟨by rw [HE.out]; rfl, b⟩
end Go.Proofs.YtiillgahnbimjaaDoor
