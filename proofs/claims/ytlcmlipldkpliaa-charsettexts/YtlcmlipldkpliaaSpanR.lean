/- DERIVED. Walks: Spans, by the document. -/
import Derived.Test.YtlcmlipldkpliaaSpanA
namespace Go.Proofs.Ytlcmlipldkpliaa
open Go.RowKit

theorem sp_hit (x : BitVec 256) (k : Nat) (hb : x.getLsbD k = true) : ∃ l lo, spL (bysTo x (k + 1)) = l ++ [(lo, (k : Int))] := by
  rw [bysTo_succ, hb]; exact spL_last _ _
theorem sp_miss (x : BitVec 256) (k : Nat) (hb : ∀ j, j + 1 = k → x.getLsbD j = false) : spStep (spL (bysTo x k)) (k : Int) = spL (bysTo x k) ++ [((k : Int), (k : Int))] := by
  rcases snoc_cases (bysTo x k) with h | ⟨m, c, h⟩
  · rw [h]; rfl
  · have hm := (bysTo_mem x k c).1 (by rw [h]; simp)
    rw [h]
    obtain ⟨l, lo, e⟩ := spL_last m c
    rw [e]
    refine spStep_miss l lo c k fun e2 => ?_
    have := hb c.toNat (by omega)
    rw [this] at hm; simp at hm

set_option maxRecDepth 100000 in
set_option maxHeartbeats 2000000 in
theorem spansR_any (x : BitVec 256) (w : World) :
    Calls Try.prog 40 #[sv x] w fun e W' => ∃ v, e = .returned v ∧ W'.ownsRow (w.heap.size + 1) 52 2 v (spL (bys x)).length (spc (spL (bys x))) ∧ (spL (bys x) = [] → v = .slice none 0 0) ∧ Below w.heap.size w W' := by
  obtain ⟨i0, hi, hz0, hz1, hz2⟩ := info_parts Try.info52
  go_enter Try.func40, Try.ntmps40
  go_wp2
  go_loopw [3, 4] (fun v t wr => ∃ k : Nat, k ≤ 256 ∧ t = .int .i64 k ∧ wr.ownsRow (w.heap.size + 1) 52 2 v (spL (bysTo x k)).length (spc (spL (bysTo x k))) ∧ (spL (bysTo x k) = [] → v = .slice none 0 0) ∧ Holds wr w.heap.size x ∧ Below w.heap.size w wr) (fun _ t _ => 256 - (intOf t).toNat)
  case atStart => exact ⟨0, by omega, rfl, World.ownsRow_nil _ _ _ _, fun _ => rfl, Holds.new w x, (Below.refl _ _).alloc (Nat.le_refl _) _⟩
  case round =>
    obtain ⟨k, hk, rfl, hown, hnil, hx, hbel⟩ := hrel
    have hsz : w.heap.size < wr.heap.size := hx.lt
    have HX := (show Hid _ from hx)
    have HO := (show Hid _ from hown)
    have HB := (show Hid _ from hbel)
    have HN := (show Hid _ from hnil)
    clear hnil
    by_cases hlt : k < 256
    · have HG := (show Hid _ from hasB_yes x k (by omega) (by omega))
      have hlen : (spL (bysTo x k)).length ≤ 256 := Nat.le_trans (spL_len _) (by have := cntTo_le x.getLsbD k; rw [bysTo_len]; omega)
      obtain ⟨l0, c0, c1, c2, c3, f0, f1, f2, f3⟩ := hx
      clear hown hbel
      cases hb : hasB x k
      · have HE : Hid (bysTo x (k + 1) = bysTo x k) := (by
          rw [HG.out, Int.toNat_natCast] at hb
          have h := bysTo_succ x k; rw [hb] at h; exact h)
        go_wp2_with fail
        refine (hasR_any x k _).mono ?_
        rintro e w1 ⟨rfl, hb1⟩
        have hO1 := (show Hid _ from own_below HO.out hb1 (by omega))
        have hB1 := (show Hid _ from HB.out.trans (hb1.mono (by omega)))
        have hX1 := (show Hid _ from HX.out.below hb1 (by omega))
        clear hb1
        go_wp2
        go_roundw
        case rel => exact ⟨k + 1, by omega, by go_num, (by rw [HE.out]; exact hO1.out), (by rw [HE.out]; exact HN.out), hX1.out, hB1.out⟩
        case measure => simp [intOf]; omega
      · have hbk : x.getLsbD k = true := by rw [HG.out, Int.toNat_natCast] at hb; exact hb
        have HSS : Hid (spL (bysTo x (k + 1)) = spStep (spL (bysTo x k)) (k : Int)) := (by
          show _ = _
          rw [bysTo_succ, hbk]; exact spL_snoc _ _)
        cases hp : hasB x ((k : Int) - 1)
        · have HE : Hid (spL (bysTo x (k + 1)) = spL (bysTo x k) ++ [((k : Int), (k : Int))]) := HSS.out.trans (sp_miss x k (fun j hj => by
            have h := hasB_yes x ((k : Int) - 1) (by omega) (by omega)
            rw [hp, show ((k : Int) - 1).toNat = j from by omega] at h
            exact h.symm))
          clear HSS hbk
          go_wp2_with fail
          refine (hasR_any x k _).mono ?_
          rintro e w1 ⟨rfl, hb1⟩
          have hX1 := (show Hid _ from HX.out.below hb1 (by omega))
          have hs1 := hb1.size
          clear c0 c1 c2 c3 f0 f1 f2 f3
          obtain ⟨l0, c0, c1, c2, c3, f0, f1, f2, f3⟩ := hX1.out
          go_wp2_with fail
          refine (hasR_any x ((k : Int) - 1) _).mono ?_
          rintro e w2 ⟨rfl, hb2⟩
          have hbb := hb1.trans (hb2.mono hb1.size)
          have hO1 := own_below HO.out hbb (by omega)
          have hB1 := (show Hid _ from HB.out.trans (hbb.mono (by omega)))
          have hX2 := (show Hid _ from HX.out.below hbb (by omega))
          have hsz1 : w.heap.size < w2.heap.size := hX2.out.lt
          clear c0 c1 c2 c3 f0 f1 f2 f3 HO HX HB hb1 hb2 hbb hX1
          go_wp2_with (at_builtin; refine wpList_append_own _ rfl _ _ 48 rfl (w.heap.size + 1) 52 i0 (.agg #[.int .i64 0, .int .i64 0]) 2 16 Try.underlying48 hi hz0 hz1 hz2 rfl (by decide) _ _ _ rfl (hO1.alloc _) ⟨w2.heap.size, 0, none⟩ 1 1 [.int .i64 (k : Int), .int .i64 (k : Int)] rfl rfl (cell_two_new _ _ _ _) ?c2 ?c3 ?c4 ?c5 ?_)
          case c2 => intro u hu; simp at hu; subst hu; rfl
          case c3 => unfold maxLen; omega
          case c4 => omega
          case c5 => simp; omega
          intro v' w3 hown' hgrow _
          have hle := fun j e => (hO1.lt j e).1
          have hB2 := (show Hid _ from (hB1.out.alloc (by omega) (.cells #[.int .i64 (k : Int), .int .i64 (k : Int)] 52)).grown hgrow (by simp; omega) (fun j e => by have := hle j e; omega))
          have hX3 := (show Hid _ from holds_grown (hX2.out.alloc (.cells #[.int .i64 (k : Int), .int .i64 (k : Int)] 52)) hgrow (fun e => by have := hle _ e; omega))
          have hO2 := (show Hid _ from hown')
          clear hO1 hown' hgrow hle
          go_wp2
          go_roundw
          case rel =>
            refine ⟨k + 1, by omega, by go_num, ?_, ?_, hX3.out, hB2.out⟩
            · rw [HE.out, List.length_append, spc_append]; exact hO2.out
            · rw [HE.out]; intro h; simp at h
          case measure => simp [intOf]; omega
        · have hpos : 1 ≤ k := by
            by_cases h : 1 ≤ k
            · exact h
            · exfalso
              rw [hasB_no x ((k : Int) - 1) (by omega)] at hp; cases hp
          obtain ⟨l, lo, hl⟩ := sp_hit x (k - 1) (by
            have h := hasB_yes x ((k : Int) - 1) (by omega) (by omega)
            rw [hp, show ((k : Int) - 1).toNat = k - 1 from by omega] at h
            exact h.symm)
          rw [show k - 1 + 1 = k from by omega] at hl
          have HE : Hid (spL (bysTo x (k + 1)) = l ++ [(lo, (k : Int))]) := (by
            have h := HSS.out
            rw [hl, spStep_hit _ _ _ _ (by omega)] at h
            exact h)
          have hown := HO.out
          rw [hl, List.length_append, List.length_singleton] at hown
          rw [hl, List.length_append, List.length_singleton] at hlen
          obtain ⟨g, cap, rfl⟩ := ownsRow_succ hown
          have HO' := (show Hid _ from hown)
          clear HSS hbk HN hl hown HO
          go_wp2_with fail
          refine (hasR_any x k _).mono ?_
          rintro e w1 ⟨rfl, hb1⟩
          have hX1 := (show Hid _ from HX.out.below hb1 (by omega))
          have hs1 := hb1.size
          clear c0 c1 c2 c3 f0 f1 f2 f3
          obtain ⟨l0, c0, c1, c2, c3, f0, f1, f2, f3⟩ := hX1.out
          go_wp2_with fail
          refine (hasR_any x ((k : Int) - 1) _).mono ?_
          rintro e w2 ⟨rfl, hb2⟩
          have hbb := hb1.trans (hb2.mono hb1.size)
          have hO1 := own_below HO'.out hbb (by omega)
          have hB1 := (show Hid _ from HB.out.trans (hbb.mono (by omega)))
          have hX2 := (show Hid _ from HX.out.below hbb (by omega))
          clear c0 c1 c2 c3 f0 f1 f2 f3 HX HB hb1 hb2 hbb hX1
          have hcu := hO1.cellAt (l.length * 2 + 1) (by omega)
          rw [spc_append, List.getElem?_append_right (by rw [spc_len]; omega), spc_len, show l.length * 2 + 1 - l.length * 2 = 1 from by omega] at hcu
          replace hcu : w2.cell? ⟨g, l.length * 2 + 1, none⟩ = some (.int .i64 ((k - 1 : Nat) : Int)) := hcu
          have hfu := hO1.frozenAt (l.length * 2 + 1)
          have hg0 : w.heap.size + 1 ≤ g := (hO1.lt g rfl).1
          have HO1 := (show Hid _ from hO1)
          clear hO1
          go_wp2
          obtain ⟨hst, hgs⟩ := World.ownsRow.stored HO1.out (l.length * 2 + 1) (.int .i64 (k : Int))
          rw [spc_set] at hst
          go_roundw
          case rel =>
            refine ⟨k + 1, by omega, by go_num, ?_, ?_, holds_grown hX2.out hgs (fun e => by cases e; omega), hB1.out.grown hgs (by have h := hX2.out.lt; omega) (fun j e => by cases e; omega)⟩
            · rw [HE.out, List.length_append, List.length_singleton]; exact hst
            · rw [HE.out]; intro h; simp at h
          case measure => simp [intOf]; omega
    · obtain rfl : k = 256 := by omega
      clear hown hx hbel
      go_wp2
      go_ret
      exact ⟨_, rfl, HO.out, HN.out, HB.out⟩
end Go.Proofs.Ytlcmlipldkpliaa
