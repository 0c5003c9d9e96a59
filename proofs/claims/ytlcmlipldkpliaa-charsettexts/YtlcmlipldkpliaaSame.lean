/- DERIVED. Walks: SameSpans at two equal lists. -/
import Derived.Test.YtlcmlipldkpliaaSpanP
import Derived.LoopN
namespace Go.Proofs.Ytlcmlipldkpliaa
open Go.RowKit

theorem eq52 (a b c d : Int) (w : World) : (Op.equalIn 10000 52 (.agg #[.int .i64 a, .int .i64 b]) (.agg #[.int .i64 c, .int .i64 d])).run Try.prog w = .ok (a == c && b == d) w := by
  have u3 := Try.underlying3
  have a3 := Try.isAgg3
  have z3 := Try.sizeOf3
  have hS : Try.prog.underlying 52 = some (.struct (Try.prog.fieldsOf 52)) := by kernel_rfl
  have hp : Try.prog.stoodInHeld 52 = false := by kernel_rfl
  rw [show (10000 : Nat) = 9999 + 1 from rfl, run_equalIn_agg w 9999 52 _ _ hS hp]
  simp only [Program.fieldsOf, Try.underlying52]
  go_simp
  by_cases h1 : a = c <;> by_cases h2 : b = d <;> simp [h1, h2]

/-- The slice v reads as the list of spans l. -/
def Reads (w : World) (v : Value) (l : List (Int × Int)) : Prop :=
  (v = .slice none 0 0 ∧ l = []) ∨ ∃ g off cap, v = .slice (some ⟨g, off, none⟩) l.length cap ∧ g < w.heap.size ∧
    ∀ i (h : i < l.length), w.cell? ⟨g, off + i * 2, none⟩ = some (.int .i64 (l[i]).1) ∧ w.cell? ⟨g, off + i * 2 + 1, none⟩ = some (.int .i64 (l[i]).2)
theorem Reads.below {B : Nat} {w w' : World} {v : Value} {l : List (Int × Int)} (h : Reads w v l) (hb : Below B w w') (hB : w.heap.size ≤ B) : Reads w' v l := by
  rcases h with h | ⟨g, off, cap, hv, hg, hc⟩
  · exact .inl h
  · refine .inr ⟨g, off, cap, hv, Nat.lt_of_lt_of_le hg hb.size, fun i hi => ?_⟩
    exact ⟨(hb.cell (p := ⟨g, off + i * 2, none⟩) (by simp; omega)).trans (hc i hi).1, (hb.cell (p := ⟨g, off + i * 2 + 1, none⟩) (by simp; omega)).trans (hc i hi).2⟩
theorem reads_own {w : World} {base : Nat} {v : Value} {l : List (Int × Int)} (h : w.ownsRow base 52 2 v l.length (spc l)) (hn : l = [] → v = .slice none 0 0) : Reads w v l := by
  rcases h.2 with ⟨hv, h0⟩ | ⟨g, cap, cur, hv, hr⟩
  · exact .inl ⟨hv, List.eq_nil_of_length_eq_zero h0⟩
  · subst hv
    refine .inr ⟨g, 0, cap, rfl, (h.lt g rfl).2, fun i hi => ?_⟩
    rw [show 0 + i * 2 = i * 2 from by omega]
    exact ⟨(h.cellAt (i * 2) (by omega)).trans (spc_lo l i hi), (h.cellAt (i * 2 + 1) (by omega)).trans (spc_hi l i hi)⟩

set_option maxRecDepth 100000 in
set_option maxHeartbeats 1000000 in
theorem same_some (g off cap g' off' cap' : Nat) (l : List (Int × Int)) (w : World) (hl : l.length ≤ 4611686018427387903)
    (hc : ∀ i (h : i < l.length), w.cell? ⟨g, off + i * 2, none⟩ = some (.int .i64 (l[i]).1) ∧ w.cell? ⟨g, off + i * 2 + 1, none⟩ = some (.int .i64 (l[i]).2))
    (hc' : ∀ i (h : i < l.length), w.cell? ⟨g', off' + i * 2, none⟩ = some (.int .i64 (l[i]).1) ∧ w.cell? ⟨g', off' + i * 2 + 1, none⟩ = some (.int .i64 (l[i]).2)) :
    Calls Try.prog 39 #[.slice (some ⟨g, off, none⟩) l.length cap, .slice (some ⟨g', off', none⟩) l.length cap'] w fun e w' => e = .returned (.bool true) ∧ ∃ nq, w' = w.drewN nq := by
  have heq := eq52
  have HC := (show Hid _ from hc)
  have HC' := (show Hid _ from hc')
  clear hc hc'
  go_enter Try.func39, Try.ntmps39
  go_wp2
  go_loopw [5] (fun t wr => ∃ k : Nat, k ≤ l.length ∧ t = .int .i64 k ∧ ∃ nq, wr = w.drewN nq) (fun t _ => l.length - (intOf t).toNat)
  case atStart => exact ⟨0, by omega, rfl, 0, rfl⟩
  case round =>
    obtain ⟨k, hk, rfl, nq, rfl⟩ := hrel
    by_cases hlt : k < l.length
    · obtain ⟨c0, c1⟩ := HC.out k hlt
      obtain ⟨d0, d1⟩ := HC'.out k hlt
      have hk0 : (0 : Int) ≤ (k : Int) := by omega
      have hk1 : (k : Int) < (l.length : Int) := by omega
      generalize (l[k]).1 = a at *
      generalize (l[k]).2 = b at *
      go_wp2
      go_quiet (fail)
      go_wp2
      go_roundw
      case rel => exact ⟨k + 1, by omega, by go_num, _, rfl⟩
      case measure => simp [intOf]; omega
    · go_wp2
      go_ret
      exact ⟨rfl, nq, rfl⟩

set_option maxHeartbeats 1000000 in
theorem same_none (a a' : Option Addr) (cap cap' : Nat) (w : World) :
    Calls Try.prog 39 #[.slice a 0 cap, .slice a' 0 cap'] w fun e w' => e = .returned (.bool true) ∧ ∃ nq, w' = w.drewN nq := by
  go_enter Try.func39, Try.ntmps39
  go_wp2
  refine wp_loop_rounds 1 ?_
  rw [rounds_succ]
  go_wp2
  go_ret
  exact ⟨rfl, 0, rfl⟩

theorem same_any (v v' : Value) (l : List (Int × Int)) (w : World) (hl : l.length ≤ 4611686018427387903) (h : Reads w v l) (h' : Reads w v' l) :
    Calls Try.prog 39 #[v, v'] w fun e w' => e = .returned (.bool true) ∧ ∃ nq, w' = w.drewN nq := by
  rcases h with ⟨rfl, rfl⟩ | ⟨g, off, cap, rfl, _, hc⟩
  · rcases h' with ⟨rfl, _⟩ | ⟨g', off', cap', rfl, _, hc'⟩
    · exact same_none _ _ _ _ w
    · exact same_none _ _ _ _ w
  · rcases h' with ⟨rfl, rfl⟩ | ⟨g', off', cap', rfl, _, hc'⟩
    · exact same_none _ _ _ _ w
    · exact same_some g off cap g' off' cap' l w hl hc hc'
end Go.Proofs.Ytlcmlipldkpliaa
