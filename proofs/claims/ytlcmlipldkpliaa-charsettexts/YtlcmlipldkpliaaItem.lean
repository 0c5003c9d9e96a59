/- DERIVED. Walks: the text of one byte, of one span, by the program. -/
import Derived.Test.YtlcmlipldkpliaaBld
namespace Go.Proofs.Ytlcmlipldkpliaa
open Go.RowKit

/-- Is it a sign that stands behind a backslash? -/
def signB (b : Int) : Bool := (b == 92) || ((b == 93) || ((b == 91) || ((b == 94) || ((b == 45) || (b == 37)))))
def prnB (b : Int) : Bool := decide (32 ≤ b) && decide (b ≤ 126)

set_option maxRecDepth 100000 in
set_option maxHeartbeats 1000000 in
theorem isPrintable_any (b : Int) (w : World) :
    Calls Try.prog 89 #[.int .i64 b] w fun e w' => e = .returned (.bool (prnB b)) ∧ w' = w := by
  by_cases h0 : 32 ≤ b
  · have hd : decide (32 ≤ b) = true := by simpa using h0
    go_enter Try.func89, Try.ntmps89
    go_wp2
    go_ret
    exact ⟨by simp [prnB, h0], rfl⟩
  · have hd : decide (32 ≤ b) = false := by simpa using h0
    go_enter Try.func89, Try.ntmps89
    go_wp2
    go_ret
    exact ⟨by unfold prnB; rw [hd]; rfl, rfl⟩

set_option maxRecDepth 100000 in
set_option maxHeartbeats 1000000 in
theorem isSign_any (b : Int) (w : World) :
    Calls Try.prog 88 #[.int .i64 b] w fun e w' => e = .returned (.bool (signB b)) ∧ w' = w := by
  cases h1 : (b == 92)
  · cases h2 : (b == 93)
    · cases h3 : (b == 91)
      · cases h4 : (b == 94)
        · cases h5 : (b == 45)
          · cases h6 : (b == 37)
            · have HE : Hid (signB b = false) := (by show signB b = false; unfold signB; rw [h1, h2, h3, h4, h5, h6]; rfl)
              go_enter Try.func88, Try.ntmps88
              go_wp2
              go_ret
              exact ⟨ret_bool HE.out.symm, rfl⟩
            · have HE : Hid (signB b = true) := (by show signB b = true; unfold signB; rw [h1, h2, h3, h4, h5, h6]; rfl)
              go_enter Try.func88, Try.ntmps88
              go_wp2
              go_ret
              exact ⟨ret_bool HE.out.symm, rfl⟩
          · have HE : Hid (signB b = true) := (by show signB b = true; unfold signB; rw [h5]; simp)
            go_enter Try.func88, Try.ntmps88
            go_wp2
            go_ret
            exact ⟨ret_bool HE.out.symm, rfl⟩
        · have HE : Hid (signB b = true) := (by show signB b = true; unfold signB; rw [h4]; simp)
          go_enter Try.func88, Try.ntmps88
          go_wp2
          go_ret
          exact ⟨ret_bool HE.out.symm, rfl⟩
      · have HE : Hid (signB b = true) := (by show signB b = true; unfold signB; rw [h3]; simp)
        go_enter Try.func88, Try.ntmps88
        go_wp2
        go_ret
        exact ⟨ret_bool HE.out.symm, rfl⟩
    · have HE : Hid (signB b = true) := (by show signB b = true; unfold signB; rw [h2]; simp)
      go_enter Try.func88, Try.ntmps88
      go_wp2
      go_ret
      exact ⟨ret_bool HE.out.symm, rfl⟩
  · have HE : Hid (signB b = true) := (by show signB b = true; unfold signB; rw [h1]; simp)
    go_enter Try.func88, Try.ntmps88
    go_wp2
    go_ret
    exact ⟨ret_bool HE.out.symm, rfl⟩

/-- The digit of a number below 16. -/
def hexD (n : Nat) : UInt8 := (#[48, 49, 50, 51, 52, 53, 54, 55, 56, 57, 97, 98, 99, 100, 101, 102] : Array UInt8).getD n 0
/-- The text of one byte. -/
def itm (b : Nat) : List UInt8 :=
  if b = 10 then [92, 110] else if b = 13 then [92, 114] else if b = 9 then [92, 116] else
  if signB b then [92, UInt8.ofNat b] else if prnB b then [UInt8.ofNat b] else [92, 120, hexD (b / 16), hexD (b % 16)]

theorem ret_str {a b : ByteArray} (h : a = b) : Ending.returned (.string a) = .returned (.string b) := by rw [h]
theorem cat11 (a b : UInt8) : (⟨#[a]⟩ : ByteArray) ++ ⟨#[b]⟩ = ⟨#[a, b]⟩ := by apply ByteArray.ext; simp
theorem cat22 (a b c d : UInt8) : (⟨#[a, b]⟩ : ByteArray) ++ ⟨#[c, d]⟩ = ⟨#[a, b, c, d]⟩ := by apply ByteArray.ext; simp
theorem conv1 (c : Int) (w : World) : (convert 75 9 (.slice (some ⟨w.heap.size, 0, none⟩) 1 1)).run Try.prog (w.alloc (.cells #[.int .u8 c] 5)) = .ok (.string ⟨#[UInt8.ofNat c.toNat]⟩) (w.alloc (.cells #[.int .u8 c] 5)) := by
  rw [run_convert_bytes_string _ 75 9 5 _ _ _ Try.underlying75 Try.underlying5 Try.underlying9]
  exact run_bytesToString _ ⟨w.heap.size, 0, none⟩ 1 1 [c] (run_loadCells_list (P := Try.prog) _ ⟨w.heap.size, 0, none⟩ [.int .u8 c] (cell_one_new _ _ _))
theorem conv2 (c d : Int) (w : World) : (convert 75 9 (.slice (some ⟨w.heap.size, 0, none⟩) 2 2)).run Try.prog (w.alloc (.cells #[.int .u8 c, .int .u8 d] 5)) = .ok (.string ⟨#[UInt8.ofNat c.toNat, UInt8.ofNat d.toNat]⟩) (w.alloc (.cells #[.int .u8 c, .int .u8 d] 5)) := by
  rw [run_convert_bytes_string _ 75 9 5 _ _ _ Try.underlying75 Try.underlying5 Try.underlying9]
  exact run_bytesToString _ ⟨w.heap.size, 0, none⟩ 2 2 [c, d] (run_loadCells_list (P := Try.prog) _ ⟨w.heap.size, 0, none⟩ [.int .u8 c, .int .u8 d] (cell_two_new _ _ _ _))

theorem conv2d (c d : Int) (w : World) : (convert 75 9 (.slice (some ⟨w.heap.size, 0, none⟩) 2 2)).run Try.prog (w.alloc (.cells #[.int .u8 c, .int .u8 d] 5)).drew = .ok (.string ⟨#[UInt8.ofNat c.toNat, UInt8.ofNat d.toNat]⟩) (w.alloc (.cells #[.int .u8 c, .int .u8 d] 5)).drew := by
  rw [run_convert_bytes_string _ 75 9 5 _ _ _ Try.underlying75 Try.underlying5 Try.underlying9]
  exact run_bytesToString _ ⟨w.heap.size, 0, none⟩ 2 2 [c, d] (run_loadCells_list (P := Try.prog) _ ⟨w.heap.size, 0, none⟩ [.int .u8 c, .int .u8 d] (fun j u h => by
    have := cell_two_new w (.int .u8 c) (.int .u8 d) 5 j u h
    exact this))
theorem hex_of (n : Nat) (h : n < 16) : UInt8.ofNat ((((⟨#[48, 49, 50, 51, 52, 53, 54, 55, 56, 57, 97, 98, 99, 100, 101, 102]⟩ : ByteArray)[n]'h).toNat : Int).toNat) = hexD n := by
  rw [Int.toNat_natCast, UInt8.ofNat_toNat]
  unfold hexD; rw [Array.getD_eq_getD_getElem?, Array.getElem?_eq_getElem h]; rfl

set_option maxRecDepth 100000 in
set_option maxHeartbeats 1000000 in
theorem item_sign (b : Nat) (hb : b < 256) (w : World) (h1 : ((b : Int) == 10) = false) (h2 : ((b : Int) == 13) = false) (h3 : ((b : Int) == 9) = false) (h4 : signB (b : Int) = true) :
    Calls Try.prog 83 #[.int .i64 b] w fun e w' => e = .returned (.string ⟨#[92, UInt8.ofNat b]⟩) ∧ Below w.heap.size w w' := by
  have hw8 : IntKind.u8.wrap (b : Int) = (b : Int) := by rw [IntKind.wrap_u8']; omega
  have hcv := conv1 b w
  rw [Int.toNat_natCast] at hcv
  go_enter Try.func83, Try.ntmps83
  go_wp2_with fail
  refine (isSign_any _ _).mono ?_
  rintro e w' ⟨rfl, rfl⟩
  go_wp2
  go_ret
  exact ⟨ret_str (cat11 _ _), below1 _ _⟩

set_option maxRecDepth 100000 in
set_option maxHeartbeats 1000000 in
theorem item_prn (b : Nat) (hb : b < 256) (w : World) (h1 : ((b : Int) == 10) = false) (h2 : ((b : Int) == 13) = false) (h3 : ((b : Int) == 9) = false) (h4 : signB (b : Int) = false) (h5 : prnB (b : Int) = true) :
    Calls Try.prog 83 #[.int .i64 b] w fun e w' => e = .returned (.string ⟨#[UInt8.ofNat b]⟩) ∧ Below w.heap.size w w' := by
  have hw8 : IntKind.u8.wrap (b : Int) = (b : Int) := by rw [IntKind.wrap_u8']; omega
  have hcv := conv1 b w
  rw [Int.toNat_natCast] at hcv
  go_enter Try.func83, Try.ntmps83
  go_wp2_with fail
  refine (isSign_any _ _).mono ?_
  rintro e w' ⟨rfl, rfl⟩
  go_wp2_with fail
  refine (isPrintable_any _ _).mono ?_
  rintro e w' ⟨rfl, rfl⟩
  go_wp2
  go_ret
  exact ⟨rfl, below1 _ _⟩

set_option maxRecDepth 100000 in
set_option maxHeartbeats 1000000 in
theorem item_hex (b : Nat) (hb : b < 256) (w : World) (h1 : ((b : Int) == 10) = false) (h2 : ((b : Int) == 13) = false) (h3 : ((b : Int) == 9) = false) (h4 : signB (b : Int) = false) (h5 : prnB (b : Int) = false) :
    Calls Try.prog 83 #[.int .i64 b] w fun e w' => e = .returned (.string ⟨#[92, 120, hexD (b / 16), hexD (b % 16)]⟩) ∧ Below w.heap.size w w' := by
  have t1 : IntKind.i64.wrap ((b : Int) / 16) = ((b / 16 : Nat) : Int) := by rw [IntKind.wrap_i64]; omega
  have t2 : IntKind.i64.wrap ((b : Int) % 16) = ((b % 16 : Nat) : Int) := by rw [IntKind.wrap_i64]; omega
  have t3 : (b : Int) / 16 = ((b / 16 : Nat) : Int) := by omega
  have t4 : (b : Int) % 16 = ((b % 16 : Nat) : Int) := by omega
  have k0 : (0 : Int) ≤ ((b / 16 : Nat) : Int) := by omega
  have k1 : ((b / 16 : Nat) : Int) < 16 := by omega
  have k2 : (0 : Int) ≤ ((b % 16 : Nat) : Int) := by omega
  have k3 : ((b % 16 : Nat) : Int) < 16 := by omega
  have q1 : b / 16 < 16 := by omega
  have q2 : b % 16 < 16 := by omega
  have hcv := conv2d ((⟨#[48, 49, 50, 51, 52, 53, 54, 55, 56, 57, 97, 98, 99, 100, 101, 102]⟩ : ByteArray)[b / 16]'q1).toNat ((⟨#[48, 49, 50, 51, 52, 53, 54, 55, 56, 57, 97, 98, 99, 100, 101, 102]⟩ : ByteArray)[b % 16]'q2).toNat w
  rw [hex_of _ q1, hex_of _ q2] at hcv
  generalize b / 16 = m at *
  generalize b % 16 = n at *
  go_enter Try.func83, Try.ntmps83
  go_wp2_with fail
  refine (isSign_any _ _).mono ?_
  rintro e w' ⟨rfl, rfl⟩
  go_wp2_with fail
  refine (isPrintable_any _ _).mono ?_
  rintro e w' ⟨rfl, rfl⟩
  go_wp2_with fail
  go_region
  all_goals
    go_wp2
    go_ret
    exact ⟨ret_str (cat22 _ _ _ _), (below1 _ _).drew⟩

theorem item_any (b : Nat) (hb : b < 256) (w : World) :
    Calls Try.prog 83 #[.int .i64 b] w fun e w' => e = .returned (.string ⟨(itm b).toArray⟩) ∧ Below w.heap.size w w' := by
  unfold itm
  by_cases h1 : b = 10
  · subst h1; rw [if_pos rfl]
    go_enter Try.func83, Try.ntmps83
    go_wp2
    go_ret
    exact ⟨rfl, Below.refl _ _⟩
  rw [if_neg h1]
  by_cases h2 : b = 13
  · subst h2; rw [if_pos rfl]
    go_enter Try.func83, Try.ntmps83
    go_wp2
    go_ret
    exact ⟨rfl, Below.refl _ _⟩
  rw [if_neg h2]
  by_cases h3 : b = 9
  · subst h3; rw [if_pos rfl]
    go_enter Try.func83, Try.ntmps83
    go_wp2
    go_ret
    exact ⟨rfl, Below.refl _ _⟩
  rw [if_neg h3]
  have e1 : ((b : Int) == 10) = false := beq_eq_false_iff_ne.2 (by omega)
  have e2 : ((b : Int) == 13) = false := beq_eq_false_iff_ne.2 (by omega)
  have e3 : ((b : Int) == 9) = false := beq_eq_false_iff_ne.2 (by omega)
  cases h4 : signB (b : Int)
  · rw [if_neg (by simp)]
    cases h5 : prnB (b : Int)
    · rw [if_neg (by simp)]; exact item_hex b hb w e1 e2 e3 h4 h5
    · rw [if_pos rfl]; exact item_prn b hb w e1 e2 e3 h4 h5
  · rw [if_pos rfl]; exact item_sign b hb w e1 e2 e3 h4
end Go.Proofs.Ytlcmlipldkpliaa
