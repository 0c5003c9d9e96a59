/- DERIVED. Walks: Unquote, by the document; the law QuoteReads. -/
import Derived.Test.YtafnjidackofpabDrB
namespace Go.Proofs.Ytafnjidackofpab
open Go.RowKit

theorem rdBody_bd {s : ByteArray} {m : Int} {f i : Nat} {l l' : List Int} {e : Nat} (hm : 0 ≤ m) (h : rdBody s m f i l = .inl (l', e)) : i < e ∧ e ≤ s.size := by
  induction f generalizing i l with
  | zero => unfold rdBody at h; cases h
  | succ f ih =>
    unfold rdBody at h
    split at h
    · next q => cases h; have := chr_lt (s := s) (i := i) (by omega); omega
    · split at h
      · cases h
      · split at h
        · cases h
        · next q => have := rdByte_bd q; have := ih h; omega
theorem rdCut_bd {s : ByteArray} {i : Int} {l : List Int} {e : Nat} (h : rdCut s i = .inl (l, e)) : 0 ≤ i ∧ i + 2 ≤ e ∧ e ≤ s.size ∧ s.size ≤ 65536 := by
  unfold rdCut at h
  split at h
  · cases h
  · split at h
    · cases h
    · split at h
      · have := rdBody_bd (by omega) h; omega
      · cases h
theorem rdCut_end {s : ByteArray} {i : Int} {l : List Int} {e : Nat} (h : rdCut s i = .inl (l, e)) : e ≤ s.size := (rdCut_bd h).2.2.1

/-- The boxes of the law. -/
structure At4 (w : World) (b1 b2 b3 b4 : Nat) (a c a' c' : Int) (W : World) : Prop where
  x1 : FHolds W b1 a c
  x2 : FHolds W b2 a c
  x3 : FHolds W b3 a' c'
  x4 : FHolds W b4 a' c'
  h : Below w.heap.size w W
theorem At4.below {w : World} {b1 b2 b3 b4 : Nat} {a c a' c' : Int} {W W' : World} (h : At4 w b1 b2 b3 b4 a c a' c' W) (hb : Below W.heap.size W W') : At4 w b1 b2 b3 b4 a c a' c' W' :=
  ⟨h.x1.below hb h.x1.lt, h.x2.below hb h.x2.lt, h.x3.below hb h.x3.lt, h.x4.below hb h.x4.lt, h.h.trans (hb.mono h.h.size)⟩
theorem cu_some (r : Rd (List Int × Nat)) : ∃ S E A C, cuV r = .tuple #[.string S, .int .i64 E, .agg #[.int .i64 A, .int .i64 C]] := by
  cases r with
  | inl p => obtain ⟨l, n⟩ := p; exact ⟨_, _, _, _, rfl⟩
  | inr pq =>
    obtain ⟨a, c⟩ := pq
    exact ⟨_, _, _, _, rfl⟩
theorem un_some (r : Rd (List Int)) : ∃ S A C, unV r = .tuple #[.string S, .agg #[.int .i64 A, .int .i64 C]] := by
  cases r with
  | inl p => exact ⟨_, _, _, rfl⟩
  | inr pq =>
    obtain ⟨a, c⟩ := pq
    exact ⟨_, _, _, rfl⟩
end Go.Proofs.Ytafnjidackofpab
