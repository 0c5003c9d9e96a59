/- DERIVED. Walks, laid together: TxU, TxL. -/
import Derived.Test.YtlcmlipldkpliaaTmLoop
import Derived.Test.YtlcmlipldkpliaaTmItem
import Derived.Test.YtlcmlipldkpliaaTmShow
import Derived.Test.YtlcmlipldkpliaaRdE
import Derived.Test.YtlcmlipldkpliaaEqs
namespace Go.Proofs.Ytlcmlipldkpliaa
open Go.RowKit

theorem readR_any (s : ByteArray) (i : Int) (hs : s.size ≤ 140737488355328) (w : World) :
    Calls Try.prog 47 #[.string s, .int .i64 i] w fun e w' => e = .returned (rrV (rdRead s i)) ∧ Below w.heap.size w w' := by
  have HI : ItemR := fun s i hi hs w => itemR_any s i hi hs w
  by_cases h : i < 0 ∨ (s.size : Int) < i
  · exact readR_out s i h w
  · obtain ⟨n, rfl⟩ : ∃ n : Nat, i = n := ⟨i.toNat, by omega⟩
    have hn : n ≤ s.size := by omega
    by_cases h1 : chr s n = 91
    · have hlt : n < s.size := chr_lt (by rw [h1]; omega)
      cases h2 : (chr s (n + 1) == 94)
      · have e : rdRead s n = rdEnd (rdMembers s (s.size + 1) 0#256 (n + 1)) := by
          unfold rdRead
          rw [if_neg h, Int.toNat_natCast, if_pos h1, if_neg (beq_eq_false_iff_ne.1 h2)]
        rw [e]
        exact readR_plain HI s n hlt hs h1 h2 w
      · have hlt2 : n + 1 < s.size := chr_lt (by rw [beq_iff_eq.1 h2]; omega)
        have e : rdRead s n = rdTurn (rdMembers s (s.size + 1) 0#256 (n + 2)) := by
          unfold rdRead
          rw [if_neg h, Int.toNat_natCast, if_pos h1, if_pos (beq_iff_eq.1 h2)]
        rw [e]
        exact readR_turn HI s n hlt2 hs h1 h2 w
    · exact readR_none s n hn (bne_iff_ne.2 h1) w

theorem put_alloc {w W : World} (h : Below w.heap.size w W) (x0 x1 x2 x3 : Value) (o : Obj) :
    Below w.heap.size w (((((W.setCell ⟨w.heap.size, 0, none⟩ x0).setCell ⟨w.heap.size, 1, none⟩ x1).setCell ⟨w.heap.size, 2, none⟩ x2).setCell ⟨w.heap.size, 3, none⟩ x3).alloc o) :=
  ((((h.setCell (p := ⟨w.heap.size, 0, none⟩) (Nat.le_refl _) x0).setCell (p := ⟨w.heap.size, 1, none⟩) (Nat.le_refl _) x1).setCell (p := ⟨w.heap.size, 2, none⟩) (Nat.le_refl _) x2).setCell (p := ⟨w.heap.size, 3, none⟩) (Nat.le_refl _) x3).alloc (by simp only [set_size]; exact h.size) o
/-- What the document's Parse answers. -/
def prV : Rd (BitVec 256) → Value
  | .inl x => .tuple #[sv x, .int .i64 0, .int .i64 0]
  | .inr (a, c) => .tuple #[sv 0#256, .int .i64 a, .int .i64 c]

set_option maxRecDepth 100000 in
set_option maxHeartbeats 4000000 in
theorem parseR_any (s : ByteArray) (w : World) :
    Calls Try.prog 49 #[.string s] w fun e w' => e = .returned (prV (rdParse s)) ∧ Below w.heap.size w w' := by
  have HZ := (show Hid _ from Holds.zero w)
  have HB := (show Hid _ from below1 w z4)
  by_cases h : 65536 < s.size
  · have HF := (show Hid (rdParse s = .inr (0, 2)) from (by show rdParse s = _; unfold rdParse; rw [if_pos h]))
    have h1 : (65536 : Int) < (s.size : Int) := by omega
    go_enter Try.func49, Try.ntmps49
    go_wp2
    rw [HF.out]
    refine bodyPost_ret (v := prV (.inr (0, 2))) (by simp [results, Try.results49, go_sem, prV, wd_zero, *]) rfl ⟨rfl, ?_⟩
    exact below1 _ _
  · have h1 : ¬ (65536 : Int) < (s.size : Int) := by omega
    cases hm : rdRead s 0 with
    | inr pq =>
      obtain ⟨a, c⟩ := pq
      have HF := (show Hid (rdParse s = .inr (a, c)) from (by show rdParse s = _; unfold rdParse; rw [if_neg h, hm]))
      have HM := (show Hid _ from hm)
      have hcn := rdRead_code hm
      have hcz : (c == 0) = false := beq_eq_false_iff_ne.2 (bne_iff_ne.1 hcn)
      clear hm
      go_enter Try.func49, Try.ntmps49
      go_wp2_with fail
      refine (readR_any s 0 (by omega) _).mono ?_
      rintro e w1 ⟨rfl, hb1⟩
      rw [HM.out]
      dsimp only [rrV]
      have HZ1 := (show Hid _ from HZ.out.below hb1 HZ.out.lt)
      have HB1 := (show Hid _ from HB.out.trans (hb1.mono HB.out.size))
      have hl : w.heap.size < w1.heap.size := HZ1.out.lt
      clear hb1 HZ HB HM
      obtain ⟨_, c0, c1, c2, c3, f0, f1, f2, f3⟩ := HZ1.out
      go_wp2_with fail
      rw [HF.out]
      refine bodyPost_ret (v := prV (.inr (a, c))) (by simp [results, Try.results49, go_sem, prV, wd_zero, *]) rfl ⟨rfl, ?_⟩
      exact put_alloc HB1.out _ _ _ _ _
    | inl p =>
      obtain ⟨x, n⟩ := p
      have hn0 := rdRead_ok hm
      by_cases hn : n < s.size
      · have HF := (show Hid (rdParse s = .inr (n, 6)) from (by show rdParse s = _; unfold rdParse; rw [if_neg h, hm]; exact if_pos hn))
        have HM := (show Hid _ from hm)
        have hn1 : (n : Int) < (s.size : Int) := by omega
        clear hm
        go_enter Try.func49, Try.ntmps49
        go_wp2_with fail
        refine (readR_any s 0 (by omega) _).mono ?_
        rintro e w1 ⟨rfl, hb1⟩
        rw [HM.out]
        dsimp only [rrV]
        have HZ1 := (show Hid _ from HZ.out.below hb1 HZ.out.lt)
        have HB1 := (show Hid _ from HB.out.trans (hb1.mono HB.out.size))
        have hl : w.heap.size < w1.heap.size := HZ1.out.lt
        clear hb1 HZ HB HM
        obtain ⟨_, c0, c1, c2, c3, f0, f1, f2, f3⟩ := HZ1.out
        go_wp2_with fail
        rw [HF.out]
        refine bodyPost_ret (v := prV (.inr (n, 6))) (by simp [results, Try.results49, go_sem, prV, wd_zero, *]) rfl ⟨rfl, ?_⟩
        exact put_alloc HB1.out _ _ _ _ _
      · have HF := (show Hid (rdParse s = .inl x) from (by show rdParse s = _; unfold rdParse; rw [if_neg h, hm]; exact if_neg hn))
        have HM := (show Hid _ from hm)
        have hn1 : ¬ (n : Int) < (s.size : Int) := by omega
        clear hm
        go_enter Try.func49, Try.ntmps49
        go_wp2_with fail
        refine (readR_any s 0 (by omega) _).mono ?_
        rintro e w1 ⟨rfl, hb1⟩
        rw [HM.out]
        dsimp only [rrV]
        have HZ1 := (show Hid _ from HZ.out.below hb1 HZ.out.lt)
        have HB1 := (show Hid _ from HB.out.trans (hb1.mono HB.out.size))
        have hl : w.heap.size < w1.heap.size := HZ1.out.lt
        clear hb1 HZ HB HM
        obtain ⟨_, c0, c1, c2, c3, f0, f1, f2, f3⟩ := HZ1.out
        go_wp2_with fail
        rw [HF.out]
        refine bodyPost_ret (v := prV (.inl x)) (by simp [results, Try.results49, go_sem, prV, wd_zero, *]) rfl ⟨rfl, ?_⟩
        exact put_alloc HB1.out _ _ _ _ _
end Go.Proofs.Ytlcmlipldkpliaa

namespace Go.Proofs.Ytlcmlipldkpliaa
open Go.RowKit

theorem both_read (r : Rd (BitVec 256 × Nat)) : ∃ (X : BitVec 256) (E A C : Int), mbV r = .tuple #[sv X, .int .i64 E, .agg #[.int .i64 A, .int .i64 C]] ∧ rrV r = .tuple #[sv X, .int .i64 E, .int .i64 A, .int .i64 C] := by
  cases r with
  | inl p => obtain ⟨x, n⟩ := p; exact ⟨x, n, 0, 0, rfl, rfl⟩
  | inr pq =>
    obtain ⟨a, c⟩ := pq
    exact ⟨0#256, 0, a, c, rfl, rfl⟩
theorem both_parse (r : Rd (BitVec 256)) : ∃ (X : BitVec 256) (A C : Int), psV r = .tuple #[sv X, .agg #[.int .i64 A, .int .i64 C]] ∧ prV r = .tuple #[sv X, .int .i64 A, .int .i64 C] := by
  cases r with
  | inl x => exact ⟨x, 0, 0, rfl, rfl⟩
  | inr pq =>
    obtain ⟨a, c⟩ := pq
    exact ⟨0#256, a, c, rfl, rfl⟩
/-- The boxes of the law. -/
structure At5 (w : World) (b d : Nat) (x X Y : BitVec 256) (A C : Int) (W : World) : Prop where
  s : Holds W w.heap.size x
  x : Holds W b X
  f : FHolds W (b + 1) A C
  y : Holds W d Y
  h : Below w.heap.size w W
  lt : w.heap.size < b
  lt2 : b + 1 < d
theorem At5.below {w : World} {b d : Nat} {x X Y : BitVec 256} {A C : Int} {W W' : World} (h : At5 w b d x X Y A C W) (hb : Below W.heap.size W W') : At5 w b d x X Y A C W' :=
  ⟨h.s.below hb h.s.lt, h.x.below hb h.x.lt, h.f.below hb h.f.lt, h.y.below hb h.y.lt, h.h.trans (hb.mono h.h.size), h.lt, h.lt2⟩
theorem At5.drew {w : World} {b d : Nat} {x X Y : BitVec 256} {A C : Int} {W : World} (h : At5 w b d x X Y A C W) : At5 w b d x X Y A C W.drew := h.below (Below.refl _ _).drew

theorem FHolds.putF {w : World} {b : Nat} {p q : Int} (h : FHolds w b p q) (p' q' : Int) : FHolds ((w.setCell ⟨b, 0, none⟩ (.int .i64 p')).setCell ⟨b, 1, none⟩ (.int .i64 q')) b p' q' := by
  obtain ⟨lt, c0, c1, f0, f1⟩ := h
  constructor <;> simp [go_sem, *]
theorem Holds.putF_other {w : World} {b c : Nat} {x : BitVec 256} (h : Holds w c x) (hne : c ≠ b) (u v : Value) : Holds ((w.setCell ⟨b, 0, none⟩ u).setCell ⟨b, 1, none⟩ v) c x := by
  obtain ⟨lt, c0, c1, c2, c3, f0, f1, f2, f3⟩ := h
  constructor <;> simp [go_sem, *]
theorem At5.put {w : World} {b d : Nat} {x X Y : BitVec 256} {A C : Int} {W : World} (h : At5 w b d x X Y A C W) (X' : BitVec 256) (A' C' : Int) :
    At5 w b d x X' Y A' C' (((put4 W b X').setCell ⟨b + 1, 0, none⟩ (.int .i64 A')).setCell ⟨b + 1, 1, none⟩ (.int .i64 C')) := by
  have hlt := h.lt
  have hlt2 := h.lt2
  refine ⟨(h.s.put_other (by omega) X').putF_other (by omega) _ _, (h.x.put X').putF_other (by omega) _ _, (h.f.put_other (by omega) X').putF A' C', (h.y.put_other (by omega) X').putF_other (by omega) _ _, ?_, h.lt, h.lt2⟩
  exact ((put4_below' h.h (by omega) X').setCell (p := ⟨b + 1, 0, none⟩) (show _ ≤ b + 1 by omega) _).setCell (p := ⟨b + 1, 1, none⟩) (show _ ≤ b + 1 by omega) _
theorem At5.puty {w : World} {b d : Nat} {x X Y : BitVec 256} {A C : Int} {W : World} (h : At5 w b d x X Y A C W) (Y' : BitVec 256) : At5 w b d x X Y' A C (put4 W d Y') := by
  have hlt := h.lt
  have hlt2 := h.lt2
  exact ⟨h.s.put_other (by omega) Y', h.x.put_other (by omega) Y', h.f.put_other (by omega) Y', h.y.put Y', put4_below' h.h (by omega) Y', h.lt, h.lt2⟩

set_option maxRecDepth 100000 in
set_option maxHeartbeats 8000000 in
theorem texts_any (x : BitVec 256) (s : ByteArray) (i : Int) (hs : s.size ≤ 140737488355328) (w : World) :
    Calls Try.prog 8 #[sv x, .string s, .int .i64 i] w fun e w' => e = .returned (.bool true) ∧ Below w.heap.size w w' := by
  have heq := eq24
  obtain ⟨X, E, A, C, hm, hr⟩ := both_read (rdRead s i)
  obtain ⟨X2, A2, C2, hp, hq⟩ := both_parse (rdParse s)
  have HM : Hid (∀ w, Calls Try.prog 46 #[.string s, .int .i64 i] w fun e w' => e = .returned (.tuple #[sv X, .int .i64 E, .agg #[.int .i64 A, .int .i64 C]]) ∧ Below w.heap.size w w') := fun w => by have h := read_any s i hs w; rw [hm] at h; exact h
  have HR : Hid (∀ w, Calls Try.prog 47 #[.string s, .int .i64 i] w fun e w' => e = .returned (.tuple #[sv X, .int .i64 E, .int .i64 A, .int .i64 C]) ∧ Below w.heap.size w w') := fun w => by have h := readR_any s i hs w; rw [hr] at h; exact h
  have HP : Hid (∀ w, Calls Try.prog 48 #[.string s] w fun e w' => e = .returned (.tuple #[sv X2, .agg #[.int .i64 A2, .int .i64 C2]]) ∧ Below w.heap.size w w') := fun w => by have h := parse_any s w; rw [hp] at h; exact h
  have HQ : Hid (∀ w, Calls Try.prog 49 #[.string s] w fun e w' => e = .returned (.tuple #[sv X2, .int .i64 A2, .int .i64 C2]) ∧ Below w.heap.size w w') := fun w => by have h := parseR_any s w; rw [hq] at h; exact h
  have HS : Hid (∀ w, Calls Try.prog 50 #[sv x] w fun e w' => e = .returned (.string ⟨(shT x).toArray⟩) ∧ Below w.heap.size w w') := fun w => show_any x w
  have HT : Hid (∀ w, Calls Try.prog 51 #[sv x] w fun e w' => e = .returned (.string ⟨(shT x).toArray⟩) ∧ Below w.heap.size w w') := fun w => showR_any x w
  generalize (⟨(shT x).toArray⟩ : ByteArray) = T at *
  clear hm hr hp hq
  have HX := (show Hid _ from Holds.new w x)
  have HB := (show Hid _ from below1 w (c4 x))
  go_enter Try.func8, Try.ntmps8
  go_wp2_with fail
  refine (HM.out _).mono ?_
  rintro e w1 ⟨rfl, hb1⟩
  replace HX := (show Hid _ from HX.out.below hb1 HX.out.lt)
  replace HB := (show Hid _ from HB.out.trans (hb1.mono HB.out.size))
  clear hb1 HM
  go_wp2_with fail
  refine (HR.out _).mono ?_
  rintro e w2 ⟨rfl, hb2⟩
  have HA := (show Hid (At5 w w1.heap.size w2.heap.size x X X A C (w2.alloc (c4 X))) from (by
    have h1 : Holds ((w1.alloc (c4 X)).alloc (.cells #[.int .i64 A, .int .i64 C] 57)) w.heap.size x := (HX.out.alloc _).alloc _
    have h2 : Holds ((w1.alloc (c4 X)).alloc (.cells #[.int .i64 A, .int .i64 C] 57)) w1.heap.size X := (Holds.new w1 X).alloc _
    have h3 := FHolds.new (w1.alloc (c4 X)) A C
    rw [alloc_size] at h3
    have h4 : Below w.heap.size w ((w1.alloc (c4 X)).alloc (.cells #[.int .i64 A, .int .i64 C] 57)) := (HB.out.alloc HB.out.size _).alloc (by rw [alloc_size]; exact Nat.le_succ_of_le HB.out.size) _
    exact ⟨(h1.below hb2 h1.lt).alloc _, (h2.below hb2 h2.lt).alloc _, (h3.below hb2 h3.lt).below (below1 w2 _) (Nat.lt_of_lt_of_le h3.lt hb2.size), Holds.new w2 X, (h4.trans (hb2.mono h4.size)).alloc (h4.trans (hb2.mono h4.size)).size _, HX.out.lt, (h3.below hb2 h3.lt).lt⟩))
  have hlt : w.heap.size < w1.heap.size := HA.out.lt
  have hlt2 : w1.heap.size + 1 < w2.heap.size := HA.out.lt2
  clear hb2 HR HX HB
  obtain ⟨_, c0, c1, c2, c3, f0, f1, f2, f3⟩ := HA.out.x
  obtain ⟨_, d0, d1, d2, d3, g0, g1, g2, g3⟩ := HA.out.y
  obtain ⟨_, e0, e1, k0, k1⟩ := HA.out.f
  go_wp2_with fail
  refine (HP.out _).mono ?_
  rintro e w3 ⟨rfl, hb3⟩
  replace HA := (show Hid _ from HA.out.below hb3)
  have hl3 : w2.heap.size < w3.heap.size := HA.out.y.lt
  clear hb3 HP c0 c1 c2 c3 f0 f1 f2 f3 d0 d1 d2 d3 g0 g1 g2 g3 e0 e1 k0 k1
  obtain ⟨_, c0, c1, c2, c3, f0, f1, f2, f3⟩ := HA.out.x
  obtain ⟨_, e0, e1, k0, k1⟩ := HA.out.f
  go_wp2_with fail
  refine (HQ.out _).mono ?_
  rintro e w4 ⟨rfl, hb4⟩
  replace HA := (show Hid _ from (HA.out.put X2 A2 C2).below hb4)
  have hl4 : w2.heap.size < w4.heap.size := HA.out.y.lt
  clear hb4 HQ c0 c1 c2 c3 f0 f1 f2 f3 e0 e1 k0 k1
  have HA2 := (show Hid (At5 w w1.heap.size w2.heap.size x X2 X2 A2 C2 ((((w4.setCell ⟨w2.heap.size, 0, none⟩ (.int .u64 (wd X2 0))).setCell ⟨w2.heap.size, 1, none⟩ (.int .u64 (wd X2 1))).setCell ⟨w2.heap.size, 2, none⟩ (.int .u64 (wd X2 2))).setCell ⟨w2.heap.size, 3, none⟩ (.int .u64 (wd X2 3)))) from HA.out.puty X2)
  obtain ⟨_, d0, d1, d2, d3, g0, g1, g2, g3⟩ := HA.out.y
  obtain ⟨_, c0, c1, c2, c3, f0, f1, f2, f3⟩ := HA.out.x
  obtain ⟨_, e0, e1, k0, k1⟩ := HA.out.f
  obtain ⟨_, s0, s1, s2, s3, _, _, _, _⟩ := HA.out.s
  go_wp2_with fail
  clear HA c0 c1 c2 c3 f0 f1 f2 f3 d0 d1 d2 d3 g0 g1 g2 g3 e0 e1 k0 k1 s0 s1 s2 s3
  generalize ((((w4.setCell ⟨w2.heap.size, 0, none⟩ (.int .u64 (wd X2 0))).setCell ⟨w2.heap.size, 1, none⟩ (.int .u64 (wd X2 1))).setCell ⟨w2.heap.size, 2, none⟩ (.int .u64 (wd X2 2))).setCell ⟨w2.heap.size, 3, none⟩ (.int .u64 (wd X2 3))) = W5 at *
  obtain ⟨_, d0, d1, d2, d3, _, _, _, _⟩ := HA2.out.y
  obtain ⟨_, c0, c1, c2, c3, _, _, _, _⟩ := HA2.out.x
  obtain ⟨_, e0, e1, _, _⟩ := HA2.out.f
  obtain ⟨_, s0, s1, s2, s3, _, _, _, _⟩ := HA2.out.s
  go_region_held3 (fun w' => w'.cell? ⟨w.heap.size, 0, none⟩ = some (.int .u64 (wd x 0)) ∧ w'.cell? ⟨w.heap.size, 1, none⟩ = some (.int .u64 (wd x 1)) ∧ w'.cell? ⟨w.heap.size, 2, none⟩ = some (.int .u64 (wd x 2)) ∧ w'.cell? ⟨w.heap.size, 3, none⟩ = some (.int .u64 (wd x 3)) ∧ w'.cell? ⟨w1.heap.size, 0, none⟩ = some (.int .u64 (wd X2 0)) ∧ w'.cell? ⟨w1.heap.size, 1, none⟩ = some (.int .u64 (wd X2 1)) ∧ w'.cell? ⟨w1.heap.size, 2, none⟩ = some (.int .u64 (wd X2 2)) ∧ w'.cell? ⟨w1.heap.size, 3, none⟩ = some (.int .u64 (wd X2 3)) ∧ w'.cell? ⟨w1.heap.size + 1, 0, none⟩ = some (.int .i64 A2) ∧ w'.cell? ⟨w1.heap.size + 1, 1, none⟩ = some (.int .i64 C2) ∧ w'.cell? ⟨w2.heap.size, 0, none⟩ = some (.int .u64 (wd X2 0)) ∧ w'.cell? ⟨w2.heap.size, 1, none⟩ = some (.int .u64 (wd X2 1)) ∧ w'.cell? ⟨w2.heap.size, 2, none⟩ = some (.int .u64 (wd X2 2)) ∧ w'.cell? ⟨w2.heap.size, 3, none⟩ = some (.int .u64 (wd X2 3))) (first | exact ⟨HA2.out.s.c0, HA2.out.s.c1, HA2.out.s.c2, HA2.out.s.c3, HA2.out.x.c0, HA2.out.x.c1, HA2.out.x.c2, HA2.out.x.c3, HA2.out.f.c0, HA2.out.f.c1, HA2.out.y.c0, HA2.out.y.c1, HA2.out.y.c2, HA2.out.y.c3⟩ | go_keep) (first | (go_at_call 50; refine (HS.out _).mono ?_; rintro e w6 ⟨rfl, hb⟩; have hA2 := (show At5 w w1.heap.size w2.heap.size x X2 X2 A2 C2 w6 from (by first | exact HA2.out.below hb | exact HA2.out.drew.below hb)); replace HA2 := (show Hid _ from hA2); clear hA2 hb) | (go_at_call 51; refine (HT.out _).mono ?_; rintro e w6 ⟨rfl, hb⟩; have hA2 := (show At5 w w1.heap.size w2.heap.size x X2 X2 A2 C2 w6 from (by first | exact HA2.out.below hb | exact HA2.out.drew.below hb)); replace HA2 := (show Hid _ from hA2); clear hA2 hb))
  go_wp2_with fail
  go_ret
  exact ⟨rfl, HA2.out.h⟩
end Go.Proofs.Ytlcmlipldkpliaa
