/- DERIVED. The law CharsetRanges, walked. -/
import Derived.Test.YtlcmlipldkpliaaRange
import Derived.Test.YtlcmlipldkpliaaClassR
import Derived.Test.YtlcmlipldkpliaaEqs
namespace Go.Proofs.Ytlcmlipldkpliaa
open Go.RowKit

/-- The worlds of the law, one behind the other. -/
theorem ranges_pre (w w1 w2 w3 w4 : World) (x y c d : BitVec 256) (hb1 : Below w.heap.size w w1) (hb2 : Below (w1.alloc (c4 x)).heap.size (w1.alloc (c4 x)) w2) (hb3 : Below (w2.alloc (c4 y)).heap.size (w2.alloc (c4 y)) w3)
    (hb4 : Below (w3.alloc (c4 c)).heap.size (w3.alloc (c4 c)) w4) :
    w1.heap.size < w2.heap.size ∧ w2.heap.size < w3.heap.size ∧ w3.heap.size < w4.heap.size ∧ Hid (Below w.heap.size w (w4.alloc (c4 d))) ∧ Hid (w.heap.size ≤ w4.heap.size) ∧
    Hid (Holds (w4.alloc (c4 d)) w1.heap.size x) ∧ Hid (Holds (w4.alloc (c4 d)) w2.heap.size y) ∧ Hid (Holds (w4.alloc (c4 d)) w3.heap.size c) ∧ Hid (Holds (w4.alloc (c4 d)) w4.heap.size d) := by
  rw [size1] at hb2 hb3 hb4
  have s1 := hb1.size
  have s2 := hb2.size
  have s3 := hb3.size
  have s4 := hb4.size
  rw [size1] at s2 s3 s4
  have k2 : Below w1.heap.size w1 w2 := (below1 w1 (c4 x)).trans (hb2.mono (by omega))
  have k3 : Below w2.heap.size w2 w3 := (below1 w2 (c4 y)).trans (hb3.mono (by omega))
  have k4 : Below w3.heap.size w3 w4 := (below1 w3 (c4 c)).trans (hb4.mono (by omega))
  refine ⟨by omega, by omega, by omega, (((hb1.trans (k2.mono (by omega))).trans (k3.mono (by omega))).trans (k4.mono (by omega))).alloc (by omega) _, (show w.heap.size ≤ w4.heap.size by omega), ?_, ?_, ?_, ?_⟩
  · exact ((((Holds.new w1 x).below hb2 (by omega)).below k3 (by omega)).below k4 (by omega)).alloc _
  · exact (((Holds.new w2 y).below hb3 (by omega)).below k4 (by omega)).alloc _
  · exact ((Holds.new w3 c).below hb4 (by omega)).alloc _
  · exact Holds.new w4 d

set_option maxRecDepth 100000 in
set_option maxHeartbeats 4000000 in
theorem charsetRanges_any (lo hi b : Int) (w : World) :
    Calls Try.prog 4 #[.int .i64 lo, .int .i64 hi, .int .i64 b] w fun e w' => e = .returned (.bool true) ∧ Below w.heap.size w w' := by
  obtain ⟨n, hn, hwb⟩ : ∃ n : Nat, n < 256 ∧ IntKind.u8.wrap b = (n : Int) := ⟨(b % 256).toNat, by omega, by rw [IntKind.wrap_u8']; omega⟩
  have hw8 : IntKind.i64.wrap (n : Int) = (n : Int) := by rw [IntKind.wrap_i64]; omega
  have heq := eq24
  go_enter Try.func4, Try.ntmps4
  go_wp2_with fail
  refine (range_any lo hi _).mono ?_
  rintro e w1 ⟨rfl, hb1⟩
  go_wp2_with fail
  refine (rangeR_any lo hi _).mono ?_
  rintro e w2 ⟨rfl, hb2⟩
  go_wp2_with fail
  refine (class_any n hn _).mono ?_
  rintro e w3 ⟨rfl, hb3⟩
  go_wp2_with fail
  refine (classR_any n hn _).mono ?_
  rintro e w4 ⟨rfl, hb4⟩
  have hq := ranges_pre w w1 w2 w3 w4 (rng lo hi).1 (rng lo hi).1 (cls n).1 (cls n).1 hb1 hb2 hb3 hb4
  clear hb1 hb2 hb3 hb4
  obtain ⟨l12, l23, l34, HB, HL, H1, H2, H3, H4⟩ := hq
  generalize (rng lo hi).1 = x at *
  generalize (rng lo hi).2 = xe at *
  generalize (cls n).1 = c at *
  generalize (cls n).2 = ce at *
  go_wp2_with fail
  generalize w4.alloc (c4 c) = w5 at *
  have HR : Hid (Below w5.heap.size w5 w5) := Below.refl _ _
  obtain ⟨l1, a10, a11, a12, a13, _, _, _, _⟩ := H1.out
  obtain ⟨l2, a20, a21, a22, a23, _, _, _, _⟩ := H2.out
  obtain ⟨l3, a30, a31, a32, a33, _, _, _, _⟩ := H3.out
  obtain ⟨l4, a40, a41, a42, a43, _, _, _, _⟩ := H4.out
  go_region_held3 (fun w' => w'.cell? ⟨w1.heap.size, 0, none⟩ = some (.int .u64 (wd x 0)) ∧ w'.cell? ⟨w1.heap.size, 1, none⟩ = some (.int .u64 (wd x 1)) ∧ w'.cell? ⟨w1.heap.size, 2, none⟩ = some (.int .u64 (wd x 2)) ∧ w'.cell? ⟨w1.heap.size, 3, none⟩ = some (.int .u64 (wd x 3)) ∧ w'.cell? ⟨w2.heap.size, 0, none⟩ = some (.int .u64 (wd x 0)) ∧ w'.cell? ⟨w2.heap.size, 1, none⟩ = some (.int .u64 (wd x 1)) ∧ w'.cell? ⟨w2.heap.size, 2, none⟩ = some (.int .u64 (wd x 2)) ∧ w'.cell? ⟨w2.heap.size, 3, none⟩ = some (.int .u64 (wd x 3)) ∧ w'.cell? ⟨w3.heap.size, 0, none⟩ = some (.int .u64 (wd c 0)) ∧ w'.cell? ⟨w3.heap.size, 1, none⟩ = some (.int .u64 (wd c 1)) ∧ w'.cell? ⟨w3.heap.size, 2, none⟩ = some (.int .u64 (wd c 2)) ∧ w'.cell? ⟨w3.heap.size, 3, none⟩ = some (.int .u64 (wd c 3)) ∧ w'.cell? ⟨w4.heap.size, 0, none⟩ = some (.int .u64 (wd c 0)) ∧ w'.cell? ⟨w4.heap.size, 1, none⟩ = some (.int .u64 (wd c 1)) ∧ w'.cell? ⟨w4.heap.size, 2, none⟩ = some (.int .u64 (wd c 2)) ∧ w'.cell? ⟨w4.heap.size, 3, none⟩ = some (.int .u64 (wd c 3))) (first | go_keep | (go_split_ands; refine ⟨?_, ?_, ?_, ?_, ?_, ?_, ?_, ?_, ?_, ?_, ?_, ?_, ?_, ?_, ?_, ?_⟩ <;> (rw [hb.cell (by simp <;> omega)]; first | assumption | simp [*]))) (first | (go_at_call 12; refine (has_any _ _ _).mono ?_; rintro e w1' ⟨rfl, hb⟩; have hz1 := hb.size; (try simp at hz1); replace HR : Hid (Below w5.heap.size w5 w1') := (by first | exact HR.out.trans (hb.mono (by omega)) | exact HR.out.drew.trans (hb.mono (by simp)))) | (go_at_call 13; refine (hasR_any _ _ _).mono ?_; rintro e w1' ⟨rfl, hb⟩; have hz1 := hb.size; (try simp at hz1); replace HR : Hid (Below w5.heap.size w5 w1') := (by first | exact HR.out.trans (hb.mono (by omega)) | exact HR.out.drew.trans (hb.mono (by simp)))))
  go_wp2
  go_ret
  exact ⟨rfl, HB.out.trans (HR.out.mono (Nat.le_trans HL.out (by omega)))⟩
end Go.Proofs.Ytlcmlipldkpliaa
