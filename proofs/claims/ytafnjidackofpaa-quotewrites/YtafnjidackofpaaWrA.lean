/- DERIVED. Walks: showByte, by the program. -/
import Derived.Test.YtafnjidackofpaaPlC
import Derived.Test.YtafnjidackofpaaBld
import Derived.Laws.OwnMore
namespace Go.Proofs.Ytafnjidackofpaa
open Go.RowKit

theorem below1 (w : World) (o : Obj) : Below w.heap.size w (w.alloc o) := (Below.refl _ _).alloc (Nat.le_refl _) _
theorem ret_str {a b : ByteArray} (h : a = b) : Ending.returned (.string a) = .returned (.string b) := by rw [h]
theorem lit_own (l : List Int) (hl : l.length ≤ 100) (w : World) : (w.alloc (.cells (l.map (Value.int .u8)).toArray 5)).ownsRow w.heap.size 5 1 (.slice (some ⟨w.heap.size, 0, none⟩) l.length l.length) l.length (l.map (Value.int .u8)) := by
  have h := World.ownsRow_lit (e := 5) (size := 1) (base := w.heap.size) w (l.map (Value.int .u8)).toArray l.length (Nat.le_refl _) (by unfold maxLen; omega) (by simp)
  simpa using h
theorem conv1 (c : Int) (w : World) : (convert 44 9 (.slice (some ⟨w.heap.size, 0, none⟩) 1 1)).run Try.prog (w.alloc (.cells #[.int .u8 c] 5)) = .ok (.string (asText [c])) (w.alloc (.cells #[.int .u8 c] 5)) :=
  text_own (l := [c]) (lit_own [c] (by simp) w)
theorem conv2 (c d : Int) (w : World) : (convert 44 9 (.slice (some ⟨w.heap.size, 0, none⟩) 2 2)).run Try.prog (w.alloc (.cells #[.int .u8 c, .int .u8 d] 5)) = .ok (.string (asText [c, d])) (w.alloc (.cells #[.int .u8 c, .int .u8 d] 5)) :=
  text_own (l := [c, d]) (lit_own [c, d] (by simp) w)
theorem conv4d (a b c d : Int) (w : World) : (convert 44 9 (.slice (some ⟨w.heap.size, 0, none⟩) 4 4)).run Try.prog (w.alloc (.cells #[.int .u8 a, .int .u8 b, .int .u8 c, .int .u8 d] 5)).drew = .ok (.string (asText [a, b, c, d])) (w.alloc (.cells #[.int .u8 a, .int .u8 b, .int .u8 c, .int .u8 d] 5)).drew :=
  text_own (l := [a, b, c, d]) (w := (w.alloc (.cells #[.int .u8 a, .int .u8 b, .int .u8 c, .int .u8 d] 5)).drew) (base := w.heap.size) (lit_own [a, b, c, d] (by simp) w)
theorem dig_of : ∀ m : Fin 16, ((digs[m.val]'m.isLt).toNat : Int) = hexD (m.val : Int) := by decide +kernel

set_option maxRecDepth 100000 in
set_option maxHeartbeats 1000000 in
theorem showB_hex (b : Nat) (hb : b < 256) (w : World) (h1 : ((b : Int) == 10) = false) (h2 : ((b : Int) == 13) = false) (h3 : ((b : Int) == 9) = false) (h4 : ((b : Int) == 39) = false) (h5 : ((b : Int) == 92) = false) (h6 : ¬ (32 ≤ (b : Int) ∧ (b : Int) ≤ 126)) :
    Calls Try.prog 26 #[.int .u8 b] w fun e w' => e = .returned (.string (asText [92, 120, hexD ((b : Int) / 16), hexD ((b : Int) % 16)])) ∧ Below w.heap.size w w' := by
  have t1 : IntKind.u8.wrap ((b : Int) / 16) = ((b / 16 : Nat) : Int) := by rw [IntKind.wrap_u8']; omega
  have t2 : IntKind.u8.wrap ((b : Int) % 16) = ((b % 16 : Nat) : Int) := by rw [IntKind.wrap_u8']; omega
  have t3 : (b : Int) / 16 = ((b / 16 : Nat) : Int) := by omega
  have t4 : (b : Int) % 16 = ((b % 16 : Nat) : Int) := by omega
  have k0 : (0 : Int) ≤ ((b / 16 : Nat) : Int) := by omega
  have k1 : ((b / 16 : Nat) : Int) < 16 := by omega
  have k2 : (0 : Int) ≤ ((b % 16 : Nat) : Int) := by omega
  have k3 : ((b % 16 : Nat) : Int) < 16 := by omega
  have q1 : b / 16 < 16 := by omega
  have q2 : b % 16 < 16 := by omega
  have hcv := conv4d 92 120 ((digs[b / 16]'q1).toNat : Int) ((digs[b % 16]'q2).toNat : Int) w
  have HR : Hid (asText [92, 120, hexD ((b : Int) / 16), hexD ((b : Int) % 16)] = asText [92, 120, ((digs[b / 16]'q1).toNat : Int), ((digs[b % 16]'q2).toNat : Int)]) := (by
    show _ = _
    rw [t3, t4, ← dig_of ⟨b / 16, q1⟩, ← dig_of ⟨b % 16, q2⟩])
  rw [HR.out]
  clear HR
  have hg : ¬ 32 ≤ (b : Int) ∨ (32 ≤ (b : Int) ∧ ¬ (b : Int) ≤ 126) := by omega
  clear h6
  generalize b / 16 = m at *
  generalize b % 16 = n at *
  rcases hg with hg | ⟨hg, hg2⟩
  all_goals
    go_enter Try.func26, Try.ntmps26
    go_wp2_with fail
    go_region
    all_goals
      go_wp2
      go_ret
      exact ⟨rfl, (below1 _ _).drew⟩

set_option maxRecDepth 100000 in
set_option maxHeartbeats 1000000 in
theorem showB_any (b : Nat) (hb : b < 256) (w : World) :
    Calls Try.prog 26 #[.int .u8 b] w fun e w' => e = .returned (.string (asText (shB b))) ∧ Below w.heap.size w w' := by
  unfold shB
  by_cases h1 : (b : Int) = 10
  · rw [if_pos h1]
    have e1 : ((b : Int) == 10) = true := beq_iff_eq.2 h1
    clear h1
    go_enter Try.func26, Try.ntmps26
    go_wp2
    go_ret
    exact ⟨rfl, Below.refl _ _⟩
  rw [if_neg h1]
  have e1 : ((b : Int) == 10) = false := beq_eq_false_iff_ne.2 h1
  by_cases h2 : (b : Int) = 13
  · rw [if_pos h2]
    have e2 : ((b : Int) == 13) = true := beq_iff_eq.2 h2
    clear h1 h2
    go_enter Try.func26, Try.ntmps26
    go_wp2
    go_ret
    exact ⟨rfl, Below.refl _ _⟩
  rw [if_neg h2]
  have e2 : ((b : Int) == 13) = false := beq_eq_false_iff_ne.2 h2
  by_cases h3 : (b : Int) = 9
  · rw [if_pos h3]
    have e3 : ((b : Int) == 9) = true := beq_iff_eq.2 h3
    clear h1 h2 h3
    go_enter Try.func26, Try.ntmps26
    go_wp2
    go_ret
    exact ⟨rfl, Below.refl _ _⟩
  rw [if_neg h3]
  have e3 : ((b : Int) == 9) = false := beq_eq_false_iff_ne.2 h3
  by_cases h4 : (b : Int) = 39 ∨ (b : Int) = 92
  · rw [if_pos h4]
    have hg : ((b : Int) == 39) = true ∨ (((b : Int) == 39) = false ∧ ((b : Int) == 92) = true) := by
      rcases h4 with h | h
      · exact .inl (beq_iff_eq.2 h)
      · exact .inr ⟨beq_eq_false_iff_ne.2 (by omega), beq_iff_eq.2 h⟩
    have hcv := conv2 92 (b : Int) w
    clear h1 h2 h3 h4
    rcases hg with e4 | ⟨e4, e5⟩
    all_goals
      go_enter Try.func26, Try.ntmps26
      go_wp2
      go_ret
      exact ⟨rfl, below1 _ _⟩
  rw [if_neg h4]
  have e4 : ((b : Int) == 39) = false := beq_eq_false_iff_ne.2 (by omega)
  have e5 : ((b : Int) == 92) = false := beq_eq_false_iff_ne.2 (by omega)
  by_cases h5 : 32 ≤ (b : Int) ∧ (b : Int) ≤ 126
  · rw [if_pos h5]
    obtain ⟨h6, h7⟩ := h5
    have hcv := conv1 (b : Int) w
    clear h1 h2 h3 h4
    go_enter Try.func26, Try.ntmps26
    go_wp2
    go_ret
    exact ⟨rfl, below1 _ _⟩
  rw [if_neg h5]
  exact showB_hex b hb w e1 e2 e3 e4 e5 h5
end Go.Proofs.Ytafnjidackofpaa
