/- DERIVED. Plain: the classes. -/
import Derived.Test.YtlcmlipldkpliaaSlots
namespace Go.Proofs.Ytlcmlipldkpliaa
/-- The class of a small letter; what it is an error of. -/
def sml (n : Nat) : BitVec 256 × Int :=
  if n = 97 then (spn 65 90 ||| spn 97 122, 0) else
  if n = 99 then (spn 0 31 ||| bt 127, 0) else
  if n = 100 then (spn 48 57, 0) else
  if n = 103 then (spn 33 126, 0) else
  if n = 108 then (spn 97 122, 0) else
  if n = 112 then (spn 33 126 &&& ~~~ (spn 65 90 ||| spn 97 122 ||| spn 48 57), 0) else
  if n = 115 then (spn 9 13 ||| bt 32, 0) else
  if n = 117 then (spn 65 90, 0) else
  if n = 119 then (spn 65 90 ||| spn 97 122 ||| spn 48 57, 0) else
  if n = 120 then (spn 48 57 ||| spn 65 70 ||| spn 97 102, 0) else
  (0#256, 10)
theorem sml97 : sml 97 = (spn 65 90 ||| spn 97 122, 0) := by unfold sml; rw [if_pos rfl]
theorem sml99 : sml 99 = (spn 0 31 ||| bt 127, 0) := by unfold sml; rw [if_neg (by omega), if_pos rfl]
theorem sml100 : sml 100 = (spn 48 57, 0) := by unfold sml; rw [if_neg (by omega), if_neg (by omega), if_pos rfl]
theorem sml103 : sml 103 = (spn 33 126, 0) := by unfold sml; rw [if_neg (by omega), if_neg (by omega), if_neg (by omega), if_pos rfl]
theorem sml108 : sml 108 = (spn 97 122, 0) := by unfold sml; rw [if_neg (by omega), if_neg (by omega), if_neg (by omega), if_neg (by omega), if_pos rfl]
theorem sml112 : sml 112 = (spn 33 126 &&& ~~~ (spn 65 90 ||| spn 97 122 ||| spn 48 57), 0) := by unfold sml; rw [if_neg (by omega), if_neg (by omega), if_neg (by omega), if_neg (by omega), if_neg (by omega), if_pos rfl]
theorem sml115 : sml 115 = (spn 9 13 ||| bt 32, 0) := by unfold sml; rw [if_neg (by omega), if_neg (by omega), if_neg (by omega), if_neg (by omega), if_neg (by omega), if_neg (by omega), if_pos rfl]
theorem sml117 : sml 117 = (spn 65 90, 0) := by unfold sml; rw [if_neg (by omega), if_neg (by omega), if_neg (by omega), if_neg (by omega), if_neg (by omega), if_neg (by omega), if_neg (by omega), if_pos rfl]
theorem sml119 : sml 119 = (spn 65 90 ||| spn 97 122 ||| spn 48 57, 0) := by unfold sml; rw [if_neg (by omega), if_neg (by omega), if_neg (by omega), if_neg (by omega), if_neg (by omega), if_neg (by omega), if_neg (by omega), if_neg (by omega), if_pos rfl]
theorem sml120 : sml 120 = (spn 48 57 ||| spn 65 70 ||| spn 97 102, 0) := by unfold sml; rw [if_neg (by omega), if_neg (by omega), if_neg (by omega), if_neg (by omega), if_neg (by omega), if_neg (by omega), if_neg (by omega), if_neg (by omega), if_neg (by omega), if_pos rfl]
theorem sml_none (n : Nat) (h97 : n ≠ 97) (h99 : n ≠ 99) (h100 : n ≠ 100) (h103 : n ≠ 103) (h108 : n ≠ 108) (h112 : n ≠ 112) (h115 : n ≠ 115) (h117 : n ≠ 117) (h119 : n ≠ 119) (h120 : n ≠ 120) : sml n = (0#256, 10) := by unfold sml; rw [if_neg h97, if_neg h99, if_neg h100, if_neg h103, if_neg h108, if_neg h112, if_neg h115, if_neg h117, if_neg h119, if_neg h120]
/-- The class of a letter, small or capital. -/
def cls (n : Nat) : BitVec 256 × Int :=
  if 65 ≤ n ∧ n ≤ 90 then (if (sml (n + 32)).2 = 0 then (~~~ (sml (n + 32)).1, 0) else (0#256, (sml (n + 32)).2)) else sml n
theorem sml_err (n : Nat) : (sml n).2 = 0 ∨ (sml n).2 = 10 := by
  by_cases h97 : n = 97
  · rw [h97, sml97]; exact .inl rfl
  by_cases h99 : n = 99
  · rw [h99, sml99]; exact .inl rfl
  by_cases h100 : n = 100
  · rw [h100, sml100]; exact .inl rfl
  by_cases h103 : n = 103
  · rw [h103, sml103]; exact .inl rfl
  by_cases h108 : n = 108
  · rw [h108, sml108]; exact .inl rfl
  by_cases h112 : n = 112
  · rw [h112, sml112]; exact .inl rfl
  by_cases h115 : n = 115
  · rw [h115, sml115]; exact .inl rfl
  by_cases h117 : n = 117
  · rw [h117, sml117]; exact .inl rfl
  by_cases h119 : n = 119
  · rw [h119, sml119]; exact .inl rfl
  by_cases h120 : n = 120
  · rw [h120, sml120]; exact .inl rfl
  rw [sml_none n h97 h99 h100 h103 h108 h112 h115 h117 h119 h120]; exact .inr rfl
theorem sml_out (n : Nat) (h : n < 97 ∨ 122 < n) : sml n = (0#256, 10) := by
  refine sml_none n ?_ ?_ ?_ ?_ ?_ ?_ ?_ ?_ ?_ ?_ <;> omega
end Go.Proofs.Ytlcmlipldkpliaa
