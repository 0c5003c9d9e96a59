/- DERIVED. The law CharsetLists, walked: one of its cases. -/
import Derived.Test.YtlcmlipldkpliaaListP
namespace Go.Proofs.Ytlcmlipldkpliaa
open Go.RowKit

set_option maxRecDepth 100000 in
set_option maxHeartbeats 4000000 in
theorem listsB_any (x : BitVec 256) (m : Int) (w : World) (M : Nat) (hM : M < 257) (hmM : (IntKind.u64.wrap m).tmod 257 = (M : Int)) (hc : (bys x).length = 0) (hq : 0 < M) :
    Calls Try.prog 6 #[sv x, .int .i64 m] w fun e w' => e = .returned (.bool true) ∧ Below w.heap.size w w' := by
  obtain ⟨s, L, HBR, HBA, HGO, HLB, hsz, hn, HT⟩ := lists_pre x
  rw [← HLB.out] at hc
  have HL0 := (show Hid (L.length = 0) from hc)
  clear hc HLB
  obtain ⟨SL, hSL, HSP, HSR⟩ := lists_pre2 x
  obtain ⟨fq, HFO, HFR⟩ := lists_pre3 x
  have heq := eq24
  have HA := (show Hid _ from AtL.start w x)
  have hMi : IntKind.i64.wrap (M : Int) = (M : Int) := by rw [IntKind.wrap_i64]; omega
  obtain ⟨l0, c0, c1, c2, c3, _, _, _, _⟩ := HA.out.x
  go_enter Try.func6, Try.ntmps6
  go_wp2_with fail
  refine (HBR.out _).mono ?_
  rintro e w1 ⟨rfl, hb⟩
  replace HA := (show Hid _ from HA.out.step hb)
  clear hb c0 c1 c2 c3 l0
  obtain ⟨l0, c0, c1, c2, c3, _, _, _, _⟩ := HA.out.x
  go_wp2_with fail
  refine (HGO.out M _).mono ?_
  rintro e w2 ⟨vf, rfl, hf, hb⟩
  have HF := (show Hid _ from hf)
  replace HA := (show Hid _ from HA.out.step hb)
  clear hb c0 c1 c2 c3 l0 hf
  obtain ⟨l0, c0, c1, c2, c3, _, _, _, _⟩ := HA.out.x
  go_wp2_with fail
  refine (HGO.out 300 _).mono ?_
  rintro e w3 ⟨va, rfl, hg, hb⟩
  rw [List.take_of_length_le (show L.length ≤ 300 by omega)] at hg
  have HG := (show Hid _ from hg)
  replace HF := (show Hid _ from ReadsI.below HF.out hb (Nat.le_refl _))
  replace HA := (show Hid _ from HA.out.step hb)
  clear hb c0 c1 c2 c3 l0 hg
  have hFl : (L.take M).length = min M L.length := List.length_take
  have HFi : Hid (∀ i (h : i < (L.take M).length) (h2 : i < L.length), (L.take M)[i] = L[i]) := fun i h h2 => List.getElem_take
  generalize L.take M = F at *
  obtain ⟨af, cf, rfl⟩ := ReadsI.len HF.out
  obtain ⟨ag, cg, rfl⟩ := ReadsI.len HG.out
  have HFL := (show Hid _ from hFl)
  have hFmin : F.length ≤ 256 := by omega
  clear hFl
  obtain ⟨l0, c0, c1, c2, c3, _, _, _, _⟩ := HA.out.x
  go_wp2_with fail
  refine (HBA.out _).mono ?_
  rintro e w4 ⟨rfl, hb⟩
  replace HF := (show Hid _ from ReadsI.below HF.out hb (Nat.le_refl _))
  replace HG := (show Hid _ from ReadsI.below HG.out hb (Nat.le_refl _))
  replace HA := (show Hid _ from HA.out.step hb)
  clear hb c0 c1 c2 c3 l0
  have hFL : F.length = L.length := by have := HFL.out; have := HL0.out; omega
  clear HFL
  obtain rfl : L = F := List.ext_getElem hFL.symm (fun i h h2 => (HFi.out i h2 h).symm)
  have hml2 : (0 : Int) < (M : Int) := by omega
  clear hFL HFi
  obtain rfl : L = [] := List.eq_nil_of_length_eq_zero HL0.out
  go_wp2_with fail
  refine wp_loop_rounds 1 ?_
  rw [rounds_succ]
  have HA4 := HA
  generalize w4 = W at *
  clear HF HG
  obtain ⟨l0, c0, c1, c2, c3, _, _, _, _⟩ := HA.out.x
  go_wp2_with fail
  refine (HSP.out _).mono ?_
  rintro e w5 ⟨vx, rfl, ho, hnx, hb⟩
  have HOX := (show Hid _ from ho)
  replace HA := (show Hid _ from HA.out.step hb)
  clear hb c0 c1 c2 c3 l0 ho
  obtain ⟨l0, c0, c1, c2, c3, _, _, _, _⟩ := HA.out.x
  go_wp2_with fail
  refine (HSP.out _).mono ?_
  rintro e w6 ⟨vy, rfl, ho, hny, hb⟩
  have HOY := (show Hid _ from ho)
  have HXL := (show Hid _ from fun g e => (World.ownsRow.lt HOX.out g e).2)
  replace HOX := (show Hid _ from own_b HOX.out hb)
  replace HA := (show Hid _ from HA.out.step hb)
  have hsz6 := hb.size
  clear hb c0 c1 c2 c3 l0 ho
  obtain ⟨l0, c0, c1, c2, c3, _, _, _, _⟩ := HA.out.x
  go_wp2_with fail
  refine (HSR.out _).mono ?_
  rintro e w7 ⟨vz, rfl, ho, hnz, hb⟩
  replace HOX := (show Hid _ from own_b HOX.out hb)
  replace HOY := (show Hid _ from own_b HOY.out hb)
  replace HA := (show Hid _ from HA.out.step hb)
  have hsz7 := hb.size
  have HRX := (show Hid _ from reads_own HOX.out hnx)
  have HRZ := (show Hid _ from reads_own ho hnz)
  clear hb c0 c1 c2 c3 l0 ho hnz
  go_wp2_with fail
  refine (same_any _ _ SL _ (by omega) HRX.out HRZ.out).mono ?_
  rintro e w8 ⟨rfl, nr, rfl⟩
  replace HOX := (show Hid _ from own_b HOX.out (below_drewN (Below.refl _ _) nr))
  replace HOY := (show Hid _ from own_b HOY.out (below_drewN (Below.refl _ _) nr))
  replace HA := (show Hid _ from HA.out.drewN nr)
  clear HRX HRZ
  have hsz8 : w7.heap.size ≤ (w7.drewN nr).heap.size := (below_drewN (Below.refl w7.heap.size w7) nr).size
  generalize w7.drewN nr = W8 at *
  rcases HOX.out.2 with ⟨hvx, hn0⟩ | ⟨gx, capx, curx, hvx, hbx, _⟩
  · subst hvx
    have hSL0 : SL.length = 0 := hn0
    go_wp2_with fail
    refine wp_loop_rounds 1 ?_
    rw [rounds_succ]
    clear HOX
    have HRY := (show Hid _ from reads_own HOY.out hny)
    clear HOY
    obtain ⟨l0, c0, c1, c2, c3, _, _, _, _⟩ := HA.out.x
    go_wp2_with fail
    go_region_held3 (fun w' => w'.cell? ⟨w.heap.size, 0, none⟩ = some (.int .u64 (wd x 0)) ∧ w'.cell? ⟨w.heap.size, 1, none⟩ = some (.int .u64 (wd x 1)) ∧ w'.cell? ⟨w.heap.size, 2, none⟩ = some (.int .u64 (wd x 2)) ∧ w'.cell? ⟨w.heap.size, 3, none⟩ = some (.int .u64 (wd x 3))) (first | go_keep | (go_split_ands; refine ⟨?_, ?_, ?_, ?_⟩ <;> (rw [hb.cell (by simp <;> omega)]; first | assumption | simp [*]))) (first | (go_at_call 40; refine (HSR.out _).mono ?_; rintro e w1' ⟨vz, rfl, ho, hnz, hb⟩; have hz1 := hb.size; (try simp at hz1); have hA2 := (show AtL w w1' x from (by first | exact HA.out.step hb | exact HA.out.drew.step hb)); replace HA := (show Hid _ from hA2); have HRZ := (show Hid _ from reads_own ho hnz); have hRY2 := (show Reads w1' vy SL from (by first | exact Reads.below HRY.out hb (by simp) | exact Reads.below (Reads.below HRY.out (Below.refl _ _).drew (Nat.le_refl _)) hb (by simp))); replace HRY := (show Hid _ from hRY2); clear ho hnz hRY2) | (go_at_call 39; refine (same_any _ _ SL _ (by omega) HRY.out HRZ.out).mono ?_; rintro e w1' ⟨rfl, nr2, rfl⟩; replace HA := (show Hid _ from HA.out.drewN nr2)) | (go_at_call 41; refine (HFO.out _).mono ?_; rintro e w1' ⟨rfl, hb⟩; have hz1 := hb.size; (try simp at hz1); have hA2 := (show AtL w w1' x from (by first | exact HA.out.step hb | exact HA.out.drew.step hb)); replace HA := (show Hid _ from hA2)) | (go_at_call 42; refine (HFR.out _).mono ?_; rintro e w1' ⟨rfl, hb⟩; have hz1 := hb.size; (try simp at hz1); have hA2 := (show AtL w w1' x from (by first | exact HA.out.step hb | exact HA.out.drew.step hb)); replace HA := (show Hid _ from hA2)))
    go_wp2
    go_ret
    exact ⟨rfl, HA.out.b⟩
  · subst hvx
    have hgy : ∀ g, vy.ownBlock = some g → gx ≠ g := fun g e => by
      have h1 := HXL.out gx rfl
      have h2 := (World.ownsRow.lt HOY.out g e).1
      omega
    have HGY := (show Hid _ from hgy)
    have HBX := (show Hid _ from hbx)
    have hgw : w.heap.size + 1 ≤ gx := by have h := HA4.out.b.size; omega
    clear hgy hbx HXL
    go_wp2_with fail
    go_loopw [13] (fun t wr => ∃ k : Nat, k ≤ SL.length ∧ t = .int .i64 k ∧ AtL w wr x ∧ (∃ cs, wr.ownsRow (W.heap.size + 1) 52 2 (.slice (some ⟨gx, 0, none⟩) SL.length capx) SL.length cs) ∧ wr.ownsRow (w5.heap.size + 1) 52 2 vy SL.length (spc SL)) (fun t _ => SL.length - (intOf t).toNat)
    case atStart => exact ⟨0, by omega, rfl, HA.out, ⟨_, HOX.out⟩, HOY.out⟩
    case round =>
      obtain ⟨k, hk, rfl, ha, ⟨cs, hox⟩, hoy⟩ := hrel
      replace HA := (show Hid _ from ha)
      replace HOX := (show Hid _ from hox)
      replace HOY := (show Hid _ from hoy)
      by_cases hlt : k < SL.length
      · have hcl := hox.1
        have u0 := hox.cellAt (k * 2) (by omega)
        have u1 := hox.cellAt (k * 2 + 1) (by omega)
        rw [List.getElem?_eq_getElem (by omega)] at u0 u1
        have g0 := hox.frozenAt (k * 2)
        have g1 := hox.frozenAt (k * 2 + 1)
        generalize cs[k * 2] = a0 at *
        generalize cs[k * 2 + 1] = a1 at *
        clear ha hox hoy
        go_wp2
        obtain ⟨o1, s1⟩ := World.ownsRow.stored HOX.out (k * 2) (.int .i64 (-7))
        obtain ⟨o2, s2⟩ := World.ownsRow.stored o1 (k * 2 + 1) (.int .i64 (-7))
        have y1 := World.ownsRow.kept HOY.out s1 (by rcases hq : vy.ownBlock with _ | g; exact .inl rfl; exact .inr (fun e => HGY.out g hq (by simpa using e.symm)))
        have y2 := World.ownsRow.kept y1 s2 (by rcases hq : vy.ownBlock with _ | g; exact .inl rfl; exact .inr (fun e => HGY.out g hq (by simpa using e.symm)))
        go_roundw
        case rel =>
          refine ⟨k + 1, by omega, by go_num, ⟨holds_gr (holds_gr HA.out.x s1 (fun e => by cases e; omega)) s2 (fun e => by cases e; omega), (HA.out.b.setCell (p := ⟨gx, k * 2, none⟩) (by simp; omega) _).setCell (p := ⟨gx, k * 2 + 1, none⟩) (by simp; omega) _⟩, ⟨_, o2⟩, y2⟩
        case measure => simp [intOf]; omega
      · clear ha hox hoy HOX
        have HRY := (show Hid _ from reads_own HOY.out hny)
        clear HOY
        obtain ⟨l0, c0, c1, c2, c3, _, _, _, _⟩ := HA.out.x
        go_wp2_with fail
        go_region_held3 (fun w' => w'.cell? ⟨w.heap.size, 0, none⟩ = some (.int .u64 (wd x 0)) ∧ w'.cell? ⟨w.heap.size, 1, none⟩ = some (.int .u64 (wd x 1)) ∧ w'.cell? ⟨w.heap.size, 2, none⟩ = some (.int .u64 (wd x 2)) ∧ w'.cell? ⟨w.heap.size, 3, none⟩ = some (.int .u64 (wd x 3))) (first | go_keep | (go_split_ands; refine ⟨?_, ?_, ?_, ?_⟩ <;> (rw [hb.cell (by simp <;> omega)]; first | assumption | simp [*]))) (first | (go_at_call 40; refine (HSR.out _).mono ?_; rintro e w1' ⟨vz, rfl, ho, hnz, hb⟩; have hz1 := hb.size; (try simp at hz1); have hA2 := (show AtL w w1' x from (by first | exact HA.out.step hb | exact HA.out.drew.step hb)); replace HA := (show Hid _ from hA2); have HRZ := (show Hid _ from reads_own ho hnz); have hRY2 := (show Reads w1' vy SL from (by first | exact Reads.below HRY.out hb (by simp) | exact Reads.below (Reads.below HRY.out (Below.refl _ _).drew (Nat.le_refl _)) hb (by simp))); replace HRY := (show Hid _ from hRY2); clear ho hnz hRY2) | (go_at_call 39; refine (same_any _ _ SL _ (by omega) HRY.out HRZ.out).mono ?_; rintro e w1' ⟨rfl, nr2, rfl⟩; replace HA := (show Hid _ from HA.out.drewN nr2)) | (go_at_call 41; refine (HFO.out _).mono ?_; rintro e w1' ⟨rfl, hb⟩; have hz1 := hb.size; (try simp at hz1); have hA2 := (show AtL w w1' x from (by first | exact HA.out.step hb | exact HA.out.drew.step hb)); replace HA := (show Hid _ from hA2)) | (go_at_call 42; refine (HFR.out _).mono ?_; rintro e w1' ⟨rfl, hb⟩; have hz1 := hb.size; (try simp at hz1); have hA2 := (show AtL w w1' x from (by first | exact HA.out.step hb | exact HA.out.drew.step hb)); replace HA := (show Hid _ from hA2)))
        go_wp2
        go_ret
        exact ⟨rfl, HA.out.b⟩
end Go.Proofs.Ytlcmlipldkpliaa
