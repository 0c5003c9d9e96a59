/- DERIVED. The law CharsetBack, walked. -/
import Derived.Test.YtlcmlipldkpliabBackQ
import Derived.Test.YtlcmlipldkpliabOfA
import Derived.Test.YtlcmlipldkpliabEqs
namespace Go.Proofs.Ytlcmlipldkpliab
open Go.RowKit

/-- What holds behind the first three ways back. -/
structure AtK (w : World) (c d : Nat) (x : BitVec 256) (W : World) : Prop where
  a : AtW w w.heap.size c x x W
  y : Holds W d x
  lt : c + 1 < d
theorem AtK.below {w : World} {c d : Nat} {x : BitVec 256} {W W' : World} (h : AtK w c d x W) (hb : Below W.heap.size W W') : AtK w c d x W' := ⟨h.a.below hb, h.y.below hb h.y.lt, h.lt⟩
theorem AtK.drew {w : World} {c d : Nat} {x : BitVec 256} {W : World} (h : AtK w c d x W) : AtK w c d x W.drew := h.below (Below.refl _ _).drew
theorem ofBytes_any (x : BitVec 256) (w : World) : Calls Try.prog 20 #[.string (asText (bys x))] w fun e w' => e = .returned (sv x) ∧ Below w.heap.size w w' := by
  have h := of_any (asText (bys x)) w (by rw [asText_size, bys_len]; have := cnt_le x; unfold maxLen; omega)
  rw [back_bytes] at h
  exact h
theorem back_tail {w W : World} (h : Below w.heap.size w W) {b : Nat} (hb : w.heap.size ≤ b) (u v : Value) (o : Obj) : Below w.heap.size w (((W.setCell ⟨b, 0, none⟩ u).setCell ⟨b, 1, none⟩ v).alloc o) :=
  ((h.setCell (p := ⟨b, 0, none⟩) hb u).setCell (p := ⟨b, 1, none⟩) hb v).alloc (by simp only [set_size]; exact h.size) o
theorem AtW.alloc {w : World} {b c : Nat} {x y : BitVec 256} {W : World} (h : AtW w b c x y W) (o : Obj) : AtW w b c x y (W.alloc o) := h.below (below1 W o)
theorem AtK.alloc {w : World} {c d : Nat} {x : BitVec 256} {W : World} (h : AtK w c d x W) (o : Obj) : AtK w c d x (W.alloc o) := h.below (below1 W o)

set_option maxRecDepth 100000 in
set_option maxHeartbeats 4000000 in
theorem back_err (x : BitVec 256) (s : ByteArray) (_hs : s.size ≤ 140737488355328) (a : Nat) (c : Int) (hp : rdParse s = .inr (a, c)) (w : World) :
    Calls Try.prog 5 #[sv x, .string s] w fun e w' => e = .returned (.bool true) ∧ Below w.heap.size w w' := by
  have heq := eq24
  have heqz := eq24z
  have HP := (show Hid _ from hp)
  obtain ⟨ha, hcn⟩ := rdParse_at hp
  clear hp
  have HX := (show Hid _ from Holds.new w x)
  have HB := (show Hid _ from below1 w (c4 x))
  go_enter Try.func5, Try.ntmps5
  go_wp2_with fail
  refine (works_any _).mono ?_
  rintro e w1 ⟨rfl, hb1⟩
  replace HX := (show Hid _ from HX.out.below hb1 HX.out.lt)
  replace HB := (show Hid _ from HB.out.trans (hb1.mono HB.out.size))
  clear hb1
  obtain ⟨_, c0, c1, c2, c3, f0, f1, f2, f3⟩ := HX.out
  go_wp2_with fail
  refine (show_any x _).mono ?_
  rintro e w2 ⟨rfl, hb2⟩
  replace HX := (show Hid _ from HX.out.below hb2 HX.out.lt)
  replace HB := (show Hid _ from HB.out.trans (hb2.mono HB.out.size))
  clear hb2 c0 c1 c2 c3 f0 f1 f2 f3
  go_wp2_with fail
  refine (parse_any _ _).mono ?_
  rintro e w3 ⟨rfl, hb3⟩
  rw [show rdParse ⟨(shT x).toArray⟩ = .inl x from back_text x]
  dsimp only [psV]
  replace HX := (show Hid _ from HX.out.below hb3 HX.out.lt)
  replace HB := (show Hid _ from HB.out.trans (hb3.mono HB.out.size))
  clear hb3
  have HA := (show Hid (AtW w w.heap.size w3.heap.size x x ((w3.alloc (c4 x)).alloc fz)) from (by
    refine ⟨(HX.out.alloc _).alloc _, (Holds.new w3 x).alloc _, ?_, (HB.out.alloc HB.out.size _).alloc ?_ _, Nat.le_refl _, HX.out.lt⟩
    · have h := FHolds.new (w3.alloc (c4 x)) 0 0
      rw [alloc_size] at h
      exact h
    · rw [alloc_size]; exact Nat.le_succ_of_le HB.out.size))
  have hlt : w.heap.size < w3.heap.size := HX.out.lt
  clear HX HB
  obtain ⟨_, c0, c1, c2, c3, f0, f1, f2, f3⟩ := HA.out.h1
  go_wp2_with fail
  refine (spans_any x _).mono ?_
  rintro e w4 ⟨v, rfl, hown, hnil, hb4⟩
  have HR := (show Hid _ from reads_own hown hnil)
  replace HA := (show Hid _ from HA.out.below hb4)
  clear hown hnil hb4 c0 c1 c2 c3 f0 f1 f2 f3
  go_wp2_with fail
  refine (fromSpans_any v _ _ HR.out).mono ?_
  rintro e w5 ⟨rfl, hb5⟩
  rw [back_spans x]
  dsimp only [fsV]
  have HK := (show Hid (AtK w w3.heap.size w5.heap.size x (w5.alloc (c4 x))) from ⟨(HA.out.below hb5).alloc _, Holds.new w5 x, (HA.out.below hb5).h3.lt⟩)
  have hlt5 : w3.heap.size + 1 < w5.heap.size := HK.out.lt
  clear hb5 HA HR
  obtain ⟨_, c0, c1, c2, c3, f0, f1, f2, f3⟩ := HK.out.a.h1
  obtain ⟨_, d0, d1, d2, d3, g0, g1, g2, g3⟩ := HK.out.a.h2
  obtain ⟨_, e0, e1, k0, k1⟩ := HK.out.a.h3
  obtain ⟨_, m0, m1, m2, m3, n0, n1, n2, n3⟩ := HK.out.y
  go_wp2_with fail
  go_region_held3 (fun w' => w'.cell? ⟨w.heap.size, 0, none⟩ = some (.int .u64 (wd x 0)) ∧ w'.cell? ⟨w.heap.size, 1, none⟩ = some (.int .u64 (wd x 1)) ∧ w'.cell? ⟨w.heap.size, 2, none⟩ = some (.int .u64 (wd x 2)) ∧ w'.cell? ⟨w.heap.size, 3, none⟩ = some (.int .u64 (wd x 3)) ∧ w'.cell? ⟨w3.heap.size, 0, none⟩ = some (.int .u64 (wd x 0)) ∧ w'.cell? ⟨w3.heap.size, 1, none⟩ = some (.int .u64 (wd x 1)) ∧ w'.cell? ⟨w3.heap.size, 2, none⟩ = some (.int .u64 (wd x 2)) ∧ w'.cell? ⟨w3.heap.size, 3, none⟩ = some (.int .u64 (wd x 3)) ∧ w'.cell? ⟨w3.heap.size + 1, 0, none⟩ = some (.int .i64 0) ∧ w'.cell? ⟨w3.heap.size + 1, 1, none⟩ = some (.int .i64 0) ∧ w'.cell? ⟨w5.heap.size, 0, none⟩ = some (.int .u64 (wd x 0)) ∧ w'.cell? ⟨w5.heap.size, 1, none⟩ = some (.int .u64 (wd x 1)) ∧ w'.cell? ⟨w5.heap.size, 2, none⟩ = some (.int .u64 (wd x 2)) ∧ w'.cell? ⟨w5.heap.size, 3, none⟩ = some (.int .u64 (wd x 3))) (first | exact ⟨HK.out.a.h1.c0, HK.out.a.h1.c1, HK.out.a.h1.c2, HK.out.a.h1.c3, HK.out.a.h2.c0, HK.out.a.h2.c1, HK.out.a.h2.c2, HK.out.a.h2.c3, HK.out.a.h3.c0, HK.out.a.h3.c1, HK.out.y.c0, HK.out.y.c1, HK.out.y.c2, HK.out.y.c3⟩ | go_keep) (first | (go_at_call 21; refine (bytes_any _ _).mono ?_; rintro e w6 ⟨rfl, hb⟩; have hA2 := (show AtK w w3.heap.size w5.heap.size x w6 from (by first | exact HK.out.below hb | exact HK.out.drew.below hb)); replace HK := (show Hid _ from hA2); clear hA2 hb) | (go_at_call 20; refine (ofBytes_any _ _).mono ?_; rintro e w6 ⟨rfl, hb⟩; have hA2 := (show AtK w w3.heap.size w5.heap.size x w6 from (by first | exact HK.out.below hb | exact HK.out.drew.below hb)); replace HK := (show Hid _ from hA2); clear hA2 hb))
  clear c0 c1 c2 c3 f0 f1 f2 f3 d0 d1 d2 d3 g0 g1 g2 g3 e0 e1 k0 k1 m0 m1 m2 m3 n0 n1 n2 n3
  go_wp2_with fail
  refine (parse_any _ _).mono ?_
  rintro e w7 ⟨rfl, hb7⟩
  rw [HP.out]
  dsimp only [psV]
  replace HK := (show Hid _ from HK.out.below hb7)
  clear hb7
  have HF := (show Hid (FHolds w7 (w3.heap.size + 1) 0 0) from HK.out.a.h3)
  have HB := (show Hid _ from HK.out.a.hb)
  have hl7 : w3.heap.size + 1 < w7.heap.size := HK.out.a.h3.lt
  clear HK
  obtain ⟨_, e0, e1, k0, k1⟩ := HF.out
  have ha0 : (0 : Int) ≤ (a : Int) := by omega
  have ha1 : (a : Int) ≤ (s.size : Int) := by omega
  have hcz : ¬ c = 0 := bne_iff_ne.1 hcn
  have HZ := (show Hid _ from back_tail HB.out (b := w3.heap.size + 1) (by omega) (.int .i64 (a : Int)) (.int .i64 c) (c4 0#256))
  go_wp2_with fail
  all_goals
    go_ret
    exact ⟨rfl, HZ.out⟩
/-- What holds behind the reading of the text. -/
structure AtZ (w : World) (c d : Nat) (z : BitVec 256) (W : World) : Prop where
  f : FHolds W (c + 1) 0 0
  z : Holds W d z
  b : Below w.heap.size w W
  le : w.heap.size ≤ c
  lt : c + 1 < d
theorem AtZ.below {w : World} {c d : Nat} {z : BitVec 256} {W W' : World} (h : AtZ w c d z W) (hb : Below W.heap.size W W') : AtZ w c d z W' := ⟨h.f.below hb h.f.lt, h.z.below hb h.z.lt, h.b.trans (hb.mono h.b.size), h.le, h.lt⟩

theorem FHolds.put {w : World} {b : Nat} {p q : Int} (h : FHolds w b p q) (p' q' : Int) : FHolds ((w.setCell ⟨b, 0, none⟩ (.int .i64 p')).setCell ⟨b, 1, none⟩ (.int .i64 q')) b p' q' := by
  obtain ⟨lt, c0, c1, f0, f1⟩ := h
  constructor <;> simp [go_sem, *]
theorem AtZ.start {w W : World} {c : Nat} {p q : Int} (hf : FHolds W (c + 1) p q) (hb : Below w.heap.size w W) (hle : w.heap.size ≤ c) (z : BitVec 256) : AtZ w c W.heap.size z (((W.setCell ⟨c + 1, 0, none⟩ (.int .i64 0)).setCell ⟨c + 1, 1, none⟩ (.int .i64 0)).alloc (c4 z)) := by
  have h := Holds.new ((W.setCell ⟨c + 1, 0, none⟩ (.int .i64 0)).setCell ⟨c + 1, 1, none⟩ (.int .i64 0)) z
  rw [set_size, set_size] at h
  have h2 := hf.put 0 0
  exact ⟨h2.below (below1 _ _) h2.lt, h, back_tail hb (by omega) _ _ _, hle, hf.lt⟩

set_option maxRecDepth 100000 in
set_option maxHeartbeats 4000000 in
theorem back_ok (x : BitVec 256) (s : ByteArray) (_hs : s.size ≤ 140737488355328) (z : BitVec 256) (hp : rdParse s = .inl z) (w : World) :
    Calls Try.prog 5 #[sv x, .string s] w fun e w' => e = .returned (.bool true) ∧ Below w.heap.size w w' := by
  have heq := eq24
  have heqz := eq24z
  have HP := (show Hid _ from hp)
  clear hp
  have HX := (show Hid _ from Holds.new w x)
  have HB := (show Hid _ from below1 w (c4 x))
  go_enter Try.func5, Try.ntmps5
  go_wp2_with fail
  refine (works_any _).mono ?_
  rintro e w1 ⟨rfl, hb1⟩
  replace HX := (show Hid _ from HX.out.below hb1 HX.out.lt)
  replace HB := (show Hid _ from HB.out.trans (hb1.mono HB.out.size))
  clear hb1
  obtain ⟨_, c0, c1, c2, c3, f0, f1, f2, f3⟩ := HX.out
  go_wp2_with fail
  refine (show_any x _).mono ?_
  rintro e w2 ⟨rfl, hb2⟩
  replace HX := (show Hid _ from HX.out.below hb2 HX.out.lt)
  replace HB := (show Hid _ from HB.out.trans (hb2.mono HB.out.size))
  clear hb2 c0 c1 c2 c3 f0 f1 f2 f3
  go_wp2_with fail
  refine (parse_any _ _).mono ?_
  rintro e w3 ⟨rfl, hb3⟩
  rw [show rdParse ⟨(shT x).toArray⟩ = .inl x from back_text x]
  dsimp only [psV]
  replace HX := (show Hid _ from HX.out.below hb3 HX.out.lt)
  replace HB := (show Hid _ from HB.out.trans (hb3.mono HB.out.size))
  clear hb3
  have HA := (show Hid (AtW w w.heap.size w3.heap.size x x ((w3.alloc (c4 x)).alloc fz)) from (by
    refine ⟨(HX.out.alloc _).alloc _, (Holds.new w3 x).alloc _, ?_, (HB.out.alloc HB.out.size _).alloc ?_ _, Nat.le_refl _, HX.out.lt⟩
    · have h := FHolds.new (w3.alloc (c4 x)) 0 0
      rw [alloc_size] at h
      exact h
    · rw [alloc_size]; exact Nat.le_succ_of_le HB.out.size))
  have hlt : w.heap.size < w3.heap.size := HX.out.lt
  clear HX HB
  obtain ⟨_, c0, c1, c2, c3, f0, f1, f2, f3⟩ := HA.out.h1
  go_wp2_with fail
  refine (spans_any x _).mono ?_
  rintro e w4 ⟨v, rfl, hown, hnil, hb4⟩
  have HR := (show Hid _ from reads_own hown hnil)
  replace HA := (show Hid _ from HA.out.below hb4)
  clear hown hnil hb4 c0 c1 c2 c3 f0 f1 f2 f3
  go_wp2_with fail
  refine (fromSpans_any v _ _ HR.out).mono ?_
  rintro e w5 ⟨rfl, hb5⟩
  rw [back_spans x]
  dsimp only [fsV]
  have HK := (show Hid (AtK w w3.heap.size w5.heap.size x (w5.alloc (c4 x))) from ⟨(HA.out.below hb5).alloc _, Holds.new w5 x, (HA.out.below hb5).h3.lt⟩)
  have hlt5 : w3.heap.size + 1 < w5.heap.size := HK.out.lt
  clear hb5 HA HR
  obtain ⟨_, c0, c1, c2, c3, f0, f1, f2, f3⟩ := HK.out.a.h1
  obtain ⟨_, d0, d1, d2, d3, g0, g1, g2, g3⟩ := HK.out.a.h2
  obtain ⟨_, e0, e1, k0, k1⟩ := HK.out.a.h3
  obtain ⟨_, m0, m1, m2, m3, n0, n1, n2, n3⟩ := HK.out.y
  go_wp2_with fail
  go_region_held3 (fun w' => w'.cell? ⟨w.heap.size, 0, none⟩ = some (.int .u64 (wd x 0)) ∧ w'.cell? ⟨w.heap.size, 1, none⟩ = some (.int .u64 (wd x 1)) ∧ w'.cell? ⟨w.heap.size, 2, none⟩ = some (.int .u64 (wd x 2)) ∧ w'.cell? ⟨w.heap.size, 3, none⟩ = some (.int .u64 (wd x 3)) ∧ w'.cell? ⟨w3.heap.size, 0, none⟩ = some (.int .u64 (wd x 0)) ∧ w'.cell? ⟨w3.heap.size, 1, none⟩ = some (.int .u64 (wd x 1)) ∧ w'.cell? ⟨w3.heap.size, 2, none⟩ = some (.int .u64 (wd x 2)) ∧ w'.cell? ⟨w3.heap.size, 3, none⟩ = some (.int .u64 (wd x 3)) ∧ w'.cell? ⟨w3.heap.size + 1, 0, none⟩ = some (.int .i64 0) ∧ w'.cell? ⟨w3.heap.size + 1, 1, none⟩ = some (.int .i64 0) ∧ w'.cell? ⟨w5.heap.size, 0, none⟩ = some (.int .u64 (wd x 0)) ∧ w'.cell? ⟨w5.heap.size, 1, none⟩ = some (.int .u64 (wd x 1)) ∧ w'.cell? ⟨w5.heap.size, 2, none⟩ = some (.int .u64 (wd x 2)) ∧ w'.cell? ⟨w5.heap.size, 3, none⟩ = some (.int .u64 (wd x 3))) (first | exact ⟨HK.out.a.h1.c0, HK.out.a.h1.c1, HK.out.a.h1.c2, HK.out.a.h1.c3, HK.out.a.h2.c0, HK.out.a.h2.c1, HK.out.a.h2.c2, HK.out.a.h2.c3, HK.out.a.h3.c0, HK.out.a.h3.c1, HK.out.y.c0, HK.out.y.c1, HK.out.y.c2, HK.out.y.c3⟩ | go_keep) (first | (go_at_call 21; refine (bytes_any _ _).mono ?_; rintro e w6 ⟨rfl, hb⟩; have hA2 := (show AtK w w3.heap.size w5.heap.size x w6 from (by first | exact HK.out.below hb | exact HK.out.drew.below hb)); replace HK := (show Hid _ from hA2); clear hA2 hb) | (go_at_call 20; refine (ofBytes_any _ _).mono ?_; rintro e w6 ⟨rfl, hb⟩; have hA2 := (show AtK w w3.heap.size w5.heap.size x w6 from (by first | exact HK.out.below hb | exact HK.out.drew.below hb)); replace HK := (show Hid _ from hA2); clear hA2 hb))
  clear c0 c1 c2 c3 f0 f1 f2 f3 d0 d1 d2 d3 g0 g1 g2 g3 e0 e1 k0 k1 m0 m1 m2 m3 n0 n1 n2 n3
  go_wp2_with fail
  refine (parse_any _ _).mono ?_
  rintro e w7 ⟨rfl, hb7⟩
  rw [HP.out]
  dsimp only [psV]
  replace HK := (show Hid _ from HK.out.below hb7)
  clear hb7
  have hl7 : w3.heap.size + 1 < w7.heap.size := HK.out.a.h3.lt
  have HZ := (show Hid _ from AtZ.start HK.out.a.h3 HK.out.a.hb (by omega) z)
  obtain ⟨_, e0, e1, k0, k1⟩ := HK.out.a.h3
  clear HK
  go_wp2_with fail
  refine (show_any z _).mono ?_
  rintro e w8 ⟨rfl, hb8⟩
  replace HZ := (show Hid _ from HZ.out.below hb8)
  clear hb8 e0 e1 k0 k1
  go_wp2_with fail
  refine (parse_any _ _).mono ?_
  rintro e w9 ⟨rfl, hb9⟩
  rw [show rdParse ⟨(shT z).toArray⟩ = .inl z from back_text z]
  dsimp only [psV]
  replace HZ := (show Hid _ from HZ.out.below hb9)
  have hl9 : w7.heap.size < w9.heap.size := HZ.out.z.lt
  have hm9 : w3.heap.size + 1 < w9.heap.size := HZ.out.f.lt
  have HT := (show Hid _ from back_tail HZ.out.b (b := w3.heap.size + 1) (by omega) (.int .i64 0) (.int .i64 0) (c4 z))
  clear hb9
  obtain ⟨_, e0, e1, k0, k1⟩ := HZ.out.f
  obtain ⟨_, m0, m1, m2, m3, n0, n1, n2, n3⟩ := HZ.out.z
  go_wp2_with fail
  go_ret
  exact ⟨rfl, HT.out⟩

theorem back_any (x : BitVec 256) (s : ByteArray) (hs : s.size ≤ 140737488355328) (w : World) :
    Calls Try.prog 5 #[sv x, .string s] w fun e w' => e = .returned (.bool true) ∧ Below w.heap.size w w' := by
  cases hp : rdParse s with
  | inl z => exact back_ok x s hs z hp w
  | inr pq =>
    obtain ⟨a, c⟩ := pq
    exact back_err x s hs a c hp w
end Go.Proofs.Ytlcmlipldkpliab
