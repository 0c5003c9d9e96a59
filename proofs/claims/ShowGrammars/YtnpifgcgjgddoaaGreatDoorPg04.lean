/- DERIVED. Plain mathematics and walks, laid together (4). -/
import Derived.Deep.RegionLaw
import Derived.Laws.Bits64
import Derived.Test.YtnpifgcgjgddoaaGreatDoorRows
import Derived.WalkKit
import Derived.Maps.AppendAt
import Derived.ProofKit
import Derived.Test.YtnpifgcgjgddoaaGreatDoorPg03
namespace Go.Proofs.YtnpifgcgjgddoaaGreatDoor
open Go.RowKit
theorem pfx_len {s : ByteArray} : ∀ {l : List UInt8} {i : Nat}, i ≤ s.size → pfx s i l = true → i + l.length ≤ s.size := by
  intro l
  induction l with
  | nil => intro i h _; exact h
  | cons c l ih =>
    intro i h hp
    rw [pfx, Bool.and_eq_true] at hp
    have h1 : i < s.size := chr_lt (by rw [beq_iff_eq.1 hp.1]; omega)
    have := ih (i := i + 1) (by omega) hp.2
    rw [List.length_cons]; omega
theorem sgGo_len (s : ByteArray) (i : Nat) (hi : i ≤ s.size) : ∀ l, i + (sgGo s i l).2.length ≤ s.size := by
  intro l
  induction l with
  | nil => exact hi
  | cons p l ih =>
    rw [sgGo]
    split
    · next h => exact pfx_len hi h
    · exact ih
theorem sgAt_len (s : ByteArray) (i : Nat) (hi : i ≤ s.size) : i + (sgAt s i).2.length ≤ s.size := sgGo_len s i hi _
def sigP (s : ByteArray) (b : Nat) : Sum Tk (Nat × Int) :=
  if (sgAt s b).1 = 0 then .inr (b, 50) else if (sgAt s b).1 = 13 ∨ (sgAt s b).1 = 14 ∨ (sgAt s b).1 = 15 then nmR s b (b + (sgAt s b).2.length) (sgAt s b).1
  else if (sgAt s b).1 = 21 then grpP s b (b + (sgAt s b).2.length) else .inl ⟨(sgAt s b).1, 0, b, (b + (sgAt s b).2.length : Nat), ⟨#[]⟩, 0, 0, 0, 0⟩
end Go.Proofs.YtnpifgcgjgddoaaGreatDoor

namespace Go.Proofs.YtnpifgcgjgddoaaGreatDoor
open Go.RowKit
theorem below_drewN {B : Nat} {a w : World} (h : Below B a w) (n : Nat) : Below B a (w.drewN n) := by
  induction n with
  | zero => exact h
  | succ n ih => exact ih.drew
end Go.Proofs.YtnpifgcgjgddoaaGreatDoor

namespace Go.Proofs.YtnpifgcgjgddoaaGreatDoor
open Go.RowKit
theorem rdMembers_end {s : ByteArray} {f : Nat} {x : BitVec 256} {k : Nat} (h : chr s k = 93) : rdMembers s (f + 1) x k = .inl (x, k) := by
  unfold rdMembers; rw [if_pos h]
theorem rdMembers_err {s : ByteArray} {f : Nat} {x : BitVec 256} {k a : Nat} {c : Int} (h : ¬ chr s k = 93) (h1 : rdMember s k = .inr (a, c)) : rdMembers s (f + 1) x k = .inr (a, c) := by
  rw [rdMembers, if_neg h, h1]
theorem rdMembers_step {s : ByteArray} {f : Nat} {x y : BitVec 256} {k n : Nat} (h : ¬ chr s k = 93) (h1 : rdMember s k = .inl (y, n)) : rdMembers s (f + 1) x k = rdMembers s f (x ||| y) n := by
  rw [rdMembers, if_neg h, h1]

theorem rdMembers_ok {s : ByteArray} : ∀ {f : Nat} {x y : BitVec 256} {i n : Nat}, rdMembers s f x i = .inl (y, n) → i ≤ n ∧ n < s.size ∧ chr s n = 93 := by
  intro f
  induction f with
  | zero => intro x y i n h; simp [rdMembers] at h
  | succ f ih =>
    intro x y i n h
    by_cases hc : chr s i = 93
    · rw [rdMembers_end hc] at h; simp only [Sum.inl.injEq, Prod.mk.injEq] at h; obtain ⟨rfl, rfl⟩ := h; exact ⟨by omega, chr_lt (by omega), hc⟩
    · cases hm : rdMember s i with
      | inr pq =>
        obtain ⟨a', c'⟩ := pq
        rw [rdMembers_err hc hm] at h; simp at h
      | inl p => obtain ⟨y, n⟩ := p; have b := rdMember_bd hm; rw [rdMembers_step hc hm] at h; have b2 := ih h; exact ⟨by omega, b2.2⟩
end Go.Proofs.YtnpifgcgjgddoaaGreatDoor

namespace Go.Proofs.YtnpifgcgjgddoaaGreatDoor
open Go.RowKit
def rdEnd : Rd (BitVec 256 × Nat) → Rd (BitVec 256 × Nat)
  | .inr (a, c) => .inr (a, c)
  | .inl (x, e) => .inl (x, e + 1)
def rdTurn : Rd (BitVec 256 × Nat) → Rd (BitVec 256 × Nat)
  | .inr (a, c) => .inr (a, c)
  | .inl (x, e) => .inl (~~~ x, e + 1)
def rdRead (s : ByteArray) (i : Int) : Rd (BitVec 256 × Nat) :=
  if i < 0 ∨ (s.size : Int) < i then .inr (0, 1) else
  if chr s i.toNat = 91 then
    if chr s (i.toNat + 1) = 94 then rdTurn (rdMembers s (s.size + 1) 0#256 (i.toNat + 2)) else rdEnd (rdMembers s (s.size + 1) 0#256 (i.toNat + 1))
  else .inr (i.toNat, 6)

theorem rdRead_ok {s : ByteArray} {i : Int} {x : BitVec 256} {n : Nat} (h : rdRead s i = .inl (x, n)) : n ≤ s.size := by
  unfold rdRead at h
  split at h
  · simp at h
  · split at h
    · split at h
      · cases hm : rdMembers s (s.size + 1) 0#256 (i.toNat + 2) with
        | inr pq =>
          obtain ⟨a', c'⟩ := pq
          rw [hm] at h; simp [rdTurn] at h
        | inl p => obtain ⟨y, m⟩ := p; have b := rdMembers_ok hm; rw [hm] at h; simp only [rdTurn, Sum.inl.injEq, Prod.mk.injEq] at h; omega
      · cases hm : rdMembers s (s.size + 1) 0#256 (i.toNat + 1) with
        | inr pq =>
          obtain ⟨a', c'⟩ := pq
          rw [hm] at h; simp [rdEnd] at h
        | inl p => obtain ⟨y, m⟩ := p; have b := rdMembers_ok hm; rw [hm] at h; simp only [rdEnd, Sum.inl.injEq, Prod.mk.injEq] at h; omega
    · simp at h
end Go.Proofs.YtnpifgcgjgddoaaGreatDoor

namespace Go.Proofs.YtnpifgcgjgddoaaGreatDoor
open Go.RowKit
def clT (s : ByteArray) (b : Nat) : Rd (BitVec 256 × Nat) → Sum Tk (Nat × Int)
  | .inl p => .inl ⟨3, 0, b, p.2, ⟨#[]⟩, wd p.1 0, wd p.1 1, wd p.1 2, wd p.1 3⟩
  | .inr q => if q.2 = 6 ∧ q.1 = s.size then .inr (b, 52) else .inr q
end Go.Proofs.YtnpifgcgjgddoaaGreatDoor

namespace Go.Proofs.YtnpifgcgjgddoaaGreatDoor
open Go.RowKit
def pctP (s : ByteArray) (b : Nat) : Sum Tk (Nat × Int) :=
  if pfx s b [37, 117, 123] = true then ptsP s b else if ¬ (sgAt s b).1 = 0 then sigP s b
  else if b + 1 < s.size ∧ (cls (chr s (b + 1)).toNat).2 = 0 then .inl ⟨28, 0, b, (b + 2 : Nat), s.extract (b + 1) (b + 2), wd (cls (chr s (b + 1)).toNat).1 0, wd (cls (chr s (b + 1)).toNat).1 1, wd (cls (chr s (b + 1)).toNat).1 2, wd (cls (chr s (b + 1)).toNat).1 3⟩ else .inr (b, 10)
end Go.Proofs.YtnpifgcgjgddoaaGreatDoor

namespace Go.Proofs.YtnpifgcgjgddoaaGreatDoor
open Go.RowKit
theorem q_chr (s : ByteArray) (i : Nat) : Q.chr s i = chr s i := rfl
theorem q_text (l : List Int) : Q.asText l = asText l := rfl
/-- The program's reading of a literal, by what Cut answers. -/
def litP (s : ByteArray) (b : Nat) : Q.Rd (List Int × Nat) → Sum Tk (Nat × Int)
  | .inr (a, c) => if c = 21 then .inr (a.toNat, 51) else if c = 22 ∧ a < (s.size : Int) then .inr (a.toNat, 50) else .inr (b, 52)
  | .inl (l, e) => if 255 < l.length then .inr (b, 2) else .inl ⟨2, 0, b, e, asText l, 0, 0, 0, 0⟩
theorem esc_same (s : ByteArray) (i : Nat) : Q.rdEsc s i = (escT s i).map fun p => ((p.1 : Int), p.2) := by
  unfold Q.rdEsc escT Q.rdHex
  rw [show Q.chr = chr from rfl, show Q.hexV = hexV from rfl]
  have hb := chr_le s (i + 1)
  by_cases a1 : chr s (i + 1) = 110
  · rw [if_pos a1, if_pos a1]; rfl
  by_cases a2 : chr s (i + 1) = 114
  · rw [if_neg a1, if_neg a1, if_pos a2, if_pos a2]; rfl
  by_cases a3 : chr s (i + 1) = 116
  · rw [if_neg a1, if_neg a1, if_neg a2, if_neg a2, if_pos a3, if_pos a3]; rfl
  rw [if_neg a1, if_neg a1, if_neg a2, if_neg a2, if_neg a3, if_neg a3]
  by_cases a4 : chr s (i + 1) = 92 ∨ chr s (i + 1) = 39 ∨ chr s (i + 1) = 34
  · rw [if_pos a4, if_pos a4, Option.map_some, Int.toNat_of_nonneg (by omega)]
  rw [if_neg a4, if_neg a4]
  by_cases h : chr s (i + 1) = 120
  · have h1 := hexV_bd (chr s (i + 2))
    rw [if_pos h]
    by_cases q : 0 ≤ hexV (chr s (i + 2)) ∧ 0 ≤ hexV (chr s (i + 3))
    · rw [if_pos q, if_pos ⟨h, q⟩, Option.map_some, Int.toNat_of_nonneg (by omega)]
    · rw [if_neg q, if_neg (fun x => q x.2)]; rfl
  · rw [if_neg h, if_neg (fun x => h x.1)]; rfl
theorem escT_lt {s : ByteArray} {i : Nat} {c n : Nat} (h : escT s i = some (c, n)) : i < n ∧ n ≤ i + 4 := by
  unfold escT at h
  split at h
  · cases h; omega
  split at h
  · cases h; omega
  split at h
  · cases h; omega
  split at h
  · cases h; omega
  split at h
  · cases h; omega
  · cases h
theorem body_same (s : ByteArray) (q : Int) (b : Nat) (hq : q = 39 ∨ q = 34) : ∀ (f i : Nat) (l : List Int), s.size < f + i → litP s b (Q.rdBody s q f i l) = litGo s q b f l i := by
  intro f
  induction f with
  | zero =>
    intro i l hf
    rw [Q.rdBody, litGo]
    rw [litP, if_neg (by decide), if_neg (by omega)]
  | succ f ih =>
    intro i l hf
    rw [Q.rdBody, litGo, q_chr]
    by_cases h1 : i < s.size
    · have hb := chr_in h1
      have hb2 : ¬ chr s i < 0 := by rw [hb]; omega
      rw [if_neg hb2]
      by_cases h2 : chr s i = q
      · rw [if_pos h2, if_pos h2]; rfl
      rw [if_neg h2, if_neg h2, if_neg (by omega)]
      by_cases h92 : chr s i = 92
      · have e1 : ¬ (chr s i < 32 ∨ chr s i = 127) := by omega
        rw [if_neg e1, if_neg (fun x => x h92)]
        unfold Q.rdByte
        rw [q_chr, if_pos h92, esc_same]
        cases he : escT s i with
        | none =>
          show litP s b (.inr ((i : Int), 21)) = _
          rw [litP, if_pos rfl]; rfl
        | some p =>
          have h3 := escT_lt (c := p.1) (n := p.2) he
          exact ih _ _ (by omega)
      · unfold Q.rdByte
        rw [q_chr, if_neg h92]
        by_cases h32 : chr s i < 32 ∨ chr s i = 127
        · rw [if_pos h32, if_pos h32]
          rw [litP, if_neg (by decide), if_pos ⟨rfl, by omega⟩]; rfl
        · rw [if_neg h32, if_neg h32, if_pos h92]
          exact ih _ _ (by omega)
    · rw [chr_out h1, if_neg (by omega), if_pos (by omega), if_pos (by omega)]
      rw [litP, if_neg (by decide), if_neg (by omega)]
theorem lit_same (s : ByteArray) (b : Nat) (hs : s.size ≤ 65536) (hb : b ≤ s.size) (hq : chr s b = 39 ∨ chr s b = 34) : litP s b (Q.rdCut s b) = litR s b := by
  unfold Q.rdCut litR
  rw [if_neg (by omega), if_neg (by omega), Int.toNat_natCast, q_chr, if_pos hq]
  exact body_same s _ b hq _ _ _ (by omega)
end Go.Proofs.YtnpifgcgjgddoaaGreatDoor

namespace Go.Proofs.YtnpifgcgjgddoaaGreatDoor.Q
open Go.RowKit
/-- The digits of 16. -/
abbrev digs : ByteArray := ⟨#[48, 49, 50, 51, 52, 53, 54, 55, 56, 57, 97, 98, 99, 100, 101, 102]⟩
end Go.Proofs.YtnpifgcgjgddoaaGreatDoor.Q

namespace Go.Proofs.YtnpifgcgjgddoaaGreatDoor.Q
open Go.RowKit
theorem Tryz.info5 : (Tryz.prog.info? 5).map (fun i => (i.zero, i.size, i.bytes)) = some (some (.int .u8 0), 1, 1) := by kernel_rfl

/-- A row that the call owns, behind a call that turned nothing of what was there. -/
theorem own_below {w w' : World} {base e size : Nat} {v : Value} {n : Nat} {xs : List Value} (h : w.ownsRow base e size v n xs) (hb : Below w.heap.size w w') : w'.ownsRow base e size v n xs := by
  refine h.kept (row := none) ⟨hb.os, hb.tape, hb.output, hb.size, fun k hk _ => hb.block k hk⟩ ?_
  cases h2 : v.ownBlock
  · exact .inl rfl
  · exact .inr (by simp)

/-- The text of a row of bytes that the call owns. -/
theorem text_own {w : World} {base : Nat} {v : Value} {l : List Int} (h : w.ownsRow base 5 1 v l.length (l.map (Value.int .u8))) :
    (convert 55 9 v).run Tryz.prog w = .ok (.string (asText l)) w := by
  have hc := h
  obtain ⟨hlen, h2⟩ := h
  rcases h2 with ⟨rfl, hn⟩ | ⟨g, cap, cur, rfl, _⟩
  · obtain rfl : l = [] := List.eq_nil_of_length_eq_zero hn
    rw [run_convert_bytes_string w 55 9 5 _ _ _ Tryz.underlying55 Tryz.underlying5 Tryz.underlying9]
    rfl
  · rw [run_convert_bytes_string w 55 9 5 _ _ _ Tryz.underlying55 Tryz.underlying5 Tryz.underlying9]
    refine run_bytesToString w ⟨g, 0, none⟩ l.length cap l ?_
    have := run_loadCells_list (P := Tryz.prog) (w := w) ⟨g, 0, none⟩ (l.map (Value.int .u8)) (hc.cells rfl)
    rwa [List.length_map] at this
end Go.Proofs.YtnpifgcgjgddoaaGreatDoor.Q

namespace Go.Proofs.YtnpifgcgjgddoaaGreatDoor
open Go.RowKit
def oneP (s : ByteArray) (b : Nat) : Sum Tk (Nat × Int) :=
  if hdB (chr s b) = true then nameR s b else if dgB (chr s b) = true then nmR s b b 4 else if chr s b = 39 ∨ chr s b = 34 then litR s b
  else if chr s b = 91 then clT s b (rdRead s b) else if chr s b = 37 then pctP s b else sigP s b
end Go.Proofs.YtnpifgcgjgddoaaGreatDoor

namespace Go.Proofs.YtnpifgcgjgddoaaGreatDoor
open Go.RowKit
theorem gpGo_fuel (s : ByteArray) : ∀ (f g i : Nat), s.size - i < f → s.size - i < g → gpGo s f i = gpGo s g i := by
  intro f
  induction f with
  | zero => intro g i h; omega
  | succ f ih =>
    intro g i h1 h2
    obtain ⟨g, rfl⟩ : ∃ k, g = k + 1 := ⟨g - 1, by omega⟩
    rw [gpGo, gpGo]
    by_cases hi : i < s.size
    · rw [if_pos hi, if_pos hi]
      by_cases hc : chr s i = 45 ∧ chr s (i + 1) = 45
      · rw [if_pos hc, if_pos hc]
        have h3 := (spN_next (P := lnB) (s := s) (i := i) (by decide) (by rw [hc.1]; rfl)).2
        have h4 := spN_ge lnB s (by decide) (i + 1)
        exact ih g _ (by omega) (by omega)
      · rw [if_neg hc, if_neg hc]
        by_cases hb : chr s i = 9 ∨ chr s i = 10 ∨ chr s i = 13 ∨ chr s i = 32
        · rw [if_pos hb, if_pos hb]
          exact ih g _ (by omega) (by omega)
        · rw [if_neg hb, if_neg hb]
    · rw [if_neg hi, if_neg hi]
theorem gapN_unf (s : ByteArray) (i : Nat) : gapN s i = if i < s.size then (if chr s i = 45 ∧ chr s (i + 1) = 45 then gapN s (spN lnB s i) else if chr s i = 9 ∨ chr s i = 10 ∨ chr s i = 13 ∨ chr s i = 32 then gapN s (i + 1) else i) else i := by
  show gpGo s (s.size + 1) i = _
  rw [gpGo]
  by_cases hi : i < s.size
  · rw [if_pos hi, if_pos hi]
    by_cases hc : chr s i = 45 ∧ chr s (i + 1) = 45
    · rw [if_pos hc, if_pos hc]
      have h3 := (spN_next (P := lnB) (s := s) (i := i) (by decide) (by rw [hc.1]; rfl)).2
      have h4 := spN_ge lnB s (by decide) (i + 1)
      exact gpGo_fuel s _ _ _ (by omega) (by omega)
    · rw [if_neg hc, if_neg hc]
      by_cases hb : chr s i = 9 ∨ chr s i = 10 ∨ chr s i = 13 ∨ chr s i = 32
      · rw [if_pos hb, if_pos hb]
        exact gpGo_fuel s _ _ _ (by omega) (by omega)
      · rw [if_neg hb, if_neg hb]
  · rw [if_neg hi, if_neg hi]
end Go.Proofs.YtnpifgcgjgddoaaGreatDoor

namespace Go.Proofs.YtnpifgcgjgddoaaGreatDoor
open Go.RowKit
theorem litGo_en (s : ByteArray) (q : Int) (b : Nat) (hq : 0 ≤ q) : ∀ (f : Nat) (out : List Int) (i : Nat) (t : Tk), litGo s q b f out i = .inl t → ∃ e : Nat, t.en = e ∧ i < e ∧ e ≤ s.size := by
  intro f
  induction f with
  | zero => intro out i t h; rw [litGo] at h; cases h
  | succ f ih =>
    intro out i t h
    rw [litGo] at h
    split at h
    · cases h
    next h0 =>
    split at h
    next h1 =>
      split at h
      · cases h
      · cases h
        have := chr_lt (s := s) (i := i) (by omega)
        exact ⟨i + 1, rfl, by omega, by omega⟩
    split at h
    · cases h
    split at h
    · obtain ⟨e, h1, h2, h3⟩ := ih _ _ _ h
      exact ⟨e, h1, by omega, h3⟩
    · split at h
      · cases h
      · next c n he =>
        have h4 := escT_lt he
        obtain ⟨e, h1, h2, h3⟩ := ih _ _ _ h
        exact ⟨e, h1, by omega, h3⟩
theorem numR_en {s : ByteArray} {d : Nat} {m n : Int} (h : numR s d m = .inl n) : d < spN dgB s d := by
  unfold numR at h
  split at h
  · cases h
  · omega
theorem nmR_en {s : ByteArray} {b d : Nat} {k : Int} {t : Tk} (hd : d ≤ s.size) (h : nmR s b d k = .inl t) : ∃ e : Nat, t.en = e ∧ d < e ∧ e ≤ s.size := by
  unfold nmR at h
  cases hn : numR s d (gtK k) with
  | inr e => rw [hn] at h; cases h
  | inl n =>
    rw [hn] at h
    cases h
    exact ⟨_, rfl, numR_en hn, spN_le dgB s (by decide) d hd⟩
theorem grpP_en {s : ByteArray} {b d : Nat} {t : Tk} (hd : d ≤ s.size) (h : grpP s b d = .inl t) : ∃ e : Nat, t.en = e ∧ d ≤ e ∧ e ≤ s.size := by
  unfold grpP at h
  split at h
  · split at h
    · cases h
    · split at h
      · next hc =>
        cases h
        have h1 := spN_ge nmB s (by decide) d
        have h2 := chr_lt (s := s) (i := spN nmB s d) (by omega)
        exact ⟨_, rfl, by omega, by omega⟩
      · cases h; exact ⟨d, rfl, Nat.le_refl _, hd⟩
  · cases h; exact ⟨d, rfl, Nat.le_refl _, hd⟩
theorem sgGo_pos (s : ByteArray) (i : Nat) : ∀ l : List (Int × List UInt8), (∀ p ∈ l, p.1 ≠ 0 ∧ 1 ≤ p.2.length) → (sgGo s i l).1 = 0 ∨ 1 ≤ (sgGo s i l).2.length := by
  intro l
  induction l with
  | nil => intro _; exact .inl rfl
  | cons p l ih =>
    intro h
    rw [sgGo]
    split
    · exact .inr (h p (List.mem_cons_self ..)).2
    · exact ih (fun q hq => h q (List.mem_cons_of_mem _ hq))
theorem sgAt_pos (s : ByteArray) (i : Nat) : (sgAt s i).1 = 0 ∨ 1 ≤ (sgAt s i).2.length := sgGo_pos s i sgTab (by decide)
theorem sigP_en {s : ByteArray} {b : Nat} {t : Tk} (hb : b ≤ s.size) (h : sigP s b = .inl t) : ∃ e : Nat, t.en = e ∧ b < e ∧ e ≤ s.size := by
  have h1 := sgAt_len s b hb
  have h2 := sgAt_pos s b
  unfold sigP at h
  split at h
  · cases h
  next h0 =>
  have h3 : 1 ≤ (sgAt s b).2.length := by rcases h2 with q | q; exact absurd q h0; exact q
  split at h
  · obtain ⟨e, a1, a2, a3⟩ := nmR_en h1 h
    exact ⟨e, a1, by omega, a3⟩
  split at h
  · obtain ⟨e, a1, a2, a3⟩ := grpP_en h1 h
    exact ⟨e, a1, by omega, a3⟩
  · cases h
    exact ⟨_, rfl, by omega, h1⟩
theorem ptsP_en {s : ByteArray} {b : Nat} {t : Tk} (hb : b + 3 ≤ s.size) (h : ptsP s b = .inl t) : ∃ e : Nat, t.en = e ∧ b < e ∧ e ≤ s.size := by
  have h1 := ptP_le hb
  unfold ptsP at h
  split at h
  · cases h
  split at h
  · next h45 =>
    have h2 := chr_lt (s := s) (i := (ptP s (b + 3)).2.1) (by omega)
    have h3 := ptP_le (s := s) (a := (ptP s (b + 3)).2.1 + 1) (by omega)
    split at h
    · cases h
    split at h
    · next hc =>
      cases h
      have h4 := chr_lt (s := s) (i := (ptP s ((ptP s (b + 3)).2.1 + 1)).2.1) (by omega)
      exact ⟨_, rfl, by omega, by omega⟩
    · cases h
  · split at h
    · next hc =>
      cases h
      have h4 := chr_lt (s := s) (i := (ptP s (b + 3)).2.1) (by omega)
      exact ⟨_, rfl, by omega, by omega⟩
    · cases h
theorem pctP_en {s : ByteArray} {b : Nat} {t : Tk} (hb : b ≤ s.size) (h : pctP s b = .inl t) : ∃ e : Nat, t.en = e ∧ b < e ∧ e ≤ s.size := by
  unfold pctP at h
  split at h
  · next hp => exact ptsP_en (pfx_len hb hp) h
  split at h
  · exact sigP_en hb h
  split at h
  · next hc => cases h; exact ⟨_, rfl, by omega, by omega⟩
  · cases h
theorem rdRead_gt {s : ByteArray} {i : Nat} {x : BitVec 256} {n : Nat} (h : rdRead s i = .inl (x, n)) : i < n := by
  unfold rdRead at h
  split at h
  · simp at h
  · split at h
    · split at h
      · cases hm : rdMembers s (s.size + 1) 0#256 ((i : Int).toNat + 2) with
        | inr pq =>
          obtain ⟨a', c'⟩ := pq
          rw [hm] at h; simp [rdTurn] at h
        | inl p => obtain ⟨y, m⟩ := p; have b := rdMembers_ok hm; rw [hm] at h; simp only [rdTurn, Sum.inl.injEq, Prod.mk.injEq] at h; omega
      · cases hm : rdMembers s (s.size + 1) 0#256 ((i : Int).toNat + 1) with
        | inr pq =>
          obtain ⟨a', c'⟩ := pq
          rw [hm] at h; simp [rdEnd] at h
        | inl p => obtain ⟨y, m⟩ := p; have b := rdMembers_ok hm; rw [hm] at h; simp only [rdEnd, Sum.inl.injEq, Prod.mk.injEq] at h; omega
    · simp at h
theorem oneP_en (s : ByteArray) (b : Nat) (t : Tk) (hb : b < s.size) (h : oneP s b = .inl t) : ∃ e : Nat, t.en = e ∧ b < e ∧ e ≤ s.size := by
  unfold oneP at h
  split at h
  · next hh =>
    unfold nameR at h
    split at h
    · cases h
    · cases h
      have h1 := (spN_next (P := nmB) (s := s) (i := b) (by decide) (by unfold nmB; rw [hh]; rfl)).2
      have h2 := spN_ge nmB s (by decide) (b + 1)
      exact ⟨_, rfl, by omega, spN_le nmB s (by decide) b (by omega)⟩
  split at h
  · exact nmR_en (by omega) h
  split at h
  · next hq =>
    obtain ⟨e, a1, a2, a3⟩ := litGo_en s _ b (by omega) _ _ _ _ h
    exact ⟨e, a1, by omega, a3⟩
  split at h
  · cases hr : rdRead s b with
    | inr p =>
      rw [hr, clT] at h
      split at h <;> cases h
    | inl p =>
      obtain ⟨x, n⟩ := p
      rw [hr] at h
      cases h
      exact ⟨n, rfl, rdRead_gt hr, rdRead_ok hr⟩
  split at h
  · exact pctP_en (by omega) h
  · exact sigP_en (by omega) h
end Go.Proofs.YtnpifgcgjgddoaaGreatDoor

namespace Go.Proofs.YtnpifgcgjgddoaaGreatDoor
open Go.RowKit
/-- The text of one span. -/
def spT (lo hi : Nat) : List UInt8 := if hi - lo = 0 then itm lo else if hi - lo = 1 then itm lo ++ itm hi else itm lo ++ [45] ++ itm hi
theorem catL (a b : List UInt8) : (⟨a.toArray⟩ : ByteArray) ++ ⟨b.toArray⟩ = ⟨(a ++ b).toArray⟩ := by apply ByteArray.ext; simp
/-- The text of one byte, as a value. -/
def itB (b : Nat) : ByteArray := ⟨(itm b).toArray⟩
theorem itB_size (b : Nat) : (itB b).size ≤ 4 := by
  show (itm b).toArray.size ≤ 4
  unfold itm
  repeat' split
  all_goals simp
theorem box2 (w : World) (a b : Value) (t : TypeId) : (w.alloc (.cells #[a, b] t)).cell? ⟨w.heap.size, 0, none⟩ = some a ∧ (w.alloc (.cells #[a, b] t)).cell? ⟨w.heap.size, 1, none⟩ = some b := by
  constructor <;> simp [go_sem]

set_option maxRecDepth 100000 in
set_option maxHeartbeats 1000000 in
theorem showSpan_any (lo hi : Nat) (hle : lo ≤ hi) (hh : hi < 256) (w : World) :
    Calls Tryz.prog 127 #[.agg #[.int .i64 lo, .int .i64 hi]] w fun e w' => e = .returned (.string ⟨(spT lo hi).toArray⟩) ∧ Below w.heap.size w w' := by
  obtain ⟨c0, c1⟩ := box2 w (.int .i64 lo) (.int .i64 hi) 152
  have C0 := (show Hid _ from c0)
  have C1 := (show Hid _ from c1)
  have HI : Hid (∀ b : Nat, b < 256 → ∀ w, Calls Tryz.prog 151 #[.int .i64 (b : Int)] w fun e w' => e = .returned (.string (itB b)) ∧ Below w.heap.size w w') := fun b hb w => item_any b hb w
  have z1 := itB_size lo
  have z2 := itB_size hi
  have HB := (show Hid _ from below1 w (.cells #[.int .i64 lo, .int .i64 hi] 152))
  by_cases h0 : hi - lo = 0
  · have e0 : ((hi : Int) - (lo : Int) == 0) = true := beq_iff_eq.2 (by omega)
    have HE : Hid (spT lo hi = itm lo) := (by show spT lo hi = _; unfold spT; rw [if_pos h0])
    go_enter Tryz.func127, Tryz.ntmps127
    go_wp2_with fail
    refine (HI.out lo (by omega) _).mono ?_
    rintro e w1 ⟨rfl, hb⟩
    have HR := (show Hid _ from HB.out.trans (hb.mono (by simp)))
    clear hb
    go_wp2
    go_ret
    exact ⟨by rw [HE.out]; rfl, HR.out⟩
  · have e0 : ((hi : Int) - (lo : Int) == 0) = false := beq_eq_false_iff_ne.2 (by omega)
    have HR : Hid (Below (w.heap.size + 1) (w.alloc (.cells #[.int .i64 lo, .int .i64 hi] 152)) (w.alloc (.cells #[.int .i64 lo, .int .i64 hi] 152))) := Below.refl _ _
    by_cases h1 : hi - lo = 1
    · have e1 : ((hi : Int) - (lo : Int) == 1) = true := beq_iff_eq.2 (by omega)
      have HE : Hid (spT lo hi = itm lo ++ itm hi) := (by show spT lo hi = _; unfold spT; rw [if_neg h0, if_pos h1])
      go_enter Tryz.func127, Tryz.ntmps127
      go_wp2
      go_region_with ((go_at_call 151; refine (HI.out _ (by omega) _).mono ?_; rintro e w1 ⟨rfl, hb⟩; have hz1 := hb.size; (try simp at hz1); have hr2 := (show Below (w.heap.size + 1) (w.alloc (.cells #[.int .i64 lo, .int .i64 hi] 152)) w1 from (by first | exact HR.out.trans (hb.mono (by omega)) | exact HR.out.drew.trans (hb.mono (by simp)))); replace HR := (show Hid _ from hr2); have d0 := (HR.out.cell (p := ⟨w.heap.size, 0, none⟩) (by simp)).trans C0.out; have d1 := (HR.out.cell (p := ⟨w.heap.size, 1, none⟩) (by simp)).trans C1.out))
      all_goals
        go_wp2
        go_ret
        exact ⟨by rw [HE.out]; exact ret_str (catL (itm lo) (itm hi)), HB.out.trans (HR.out.mono (by omega))⟩
    · have e1 : ((hi : Int) - (lo : Int) == 1) = false := beq_eq_false_iff_ne.2 (by omega)
      have HE : Hid (spT lo hi = itm lo ++ [45] ++ itm hi) := (by show spT lo hi = _; unfold spT; rw [if_neg h0, if_neg h1])
      go_enter Tryz.func127, Tryz.ntmps127
      go_wp2
      go_region_with ((go_at_call 151; refine (HI.out _ (by omega) _).mono ?_; rintro e w1 ⟨rfl, hb⟩; have hz1 := hb.size; (try simp at hz1); have hr2 := (show Below (w.heap.size + 1) (w.alloc (.cells #[.int .i64 lo, .int .i64 hi] 152)) w1 from (by first | exact HR.out.trans (hb.mono (by omega)) | exact HR.out.drew.trans (hb.mono (by simp)))); replace HR := (show Hid _ from hr2); have d0 := (HR.out.cell (p := ⟨w.heap.size, 0, none⟩) (by simp)).trans C0.out; have d1 := (HR.out.cell (p := ⟨w.heap.size, 1, none⟩) (by simp)).trans C1.out))
      all_goals
        go_wp2
        go_ret
        exact ⟨by rw [HE.out]; exact ret_str (by exact (congrArg (· ++ itB hi) (catL (itm lo) [45])).trans (catL (itm lo ++ [45]) (itm hi))), HB.out.trans (HR.out.mono (by omega))⟩
end Go.Proofs.YtnpifgcgjgddoaaGreatDoor

namespace Go.Proofs.YtnpifgcgjgddoaaGreatDoor
open Go.RowKit
theorem eqW (x y : BitVec 256) : (x == y) = (wd x 0 == wd y 0 && (wd x 1 == wd y 1 && (wd x 2 == wd y 2 && wd x 3 == wd y 3))) := by
  rw [Bool.eq_iff_iff]
  simp only [Bool.and_eq_true, beq_iff_eq]
  exact ⟨fun h => by rw [h]; simp, fun ⟨a, b, c, d⟩ => set_ext x y a b c d⟩
theorem eq24w (a b c d a' b' c' d' : Int) (w : World) : (Op.equalIn 10000 49 (.agg #[.int .u64 a, .int .u64 b, .int .u64 c, .int .u64 d]) (.agg #[.int .u64 a', .int .u64 b', .int .u64 c', .int .u64 d'])).run Tryz.prog w = .ok (a == a' && (b == b' && (c == c' && d == d'))) w := by
  have u3 := Tryz.underlying47
  have a3 := Tryz.isAgg47
  have z3 := Tryz.sizeOf47
  rw [show (10000 : Nat) = 9999 + 1 from rfl, Op.equalIn]
  simp only [Sem.run_bind, run_underlying Tryz.underlying49, Result.andThen_ok]
  simp only [Std.Legacy.Range.forIn_eq_forIn_range', Std.Legacy.Range.size, Nat.sub_zero, Nat.add_sub_cancel, Nat.div_one, List.range'_succ, List.range'_zero, List.forIn_cons, List.forIn_nil]
  go_simp
  by_cases h1 : a = a' <;> by_cases h2 : b = b' <;> by_cases h3 : c = c' <;> by_cases h4 : d = d' <;> simp [h1, h2, h3, h4]
theorem eq24 (x y : BitVec 256) (w : World) : (Op.equalIn 10000 49 (.agg #[.int .u64 (wd x 0), .int .u64 (wd x 1), .int .u64 (wd x 2), .int .u64 (wd x 3)]) (.agg #[.int .u64 (wd y 0), .int .u64 (wd y 1), .int .u64 (wd y 2), .int .u64 (wd y 3)])).run Tryz.prog w = .ok (x == y) w := by
  rw [eq24w, eqW]
end Go.Proofs.YtnpifgcgjgddoaaGreatDoor

namespace Go.Proofs.YtnpifgcgjgddoaaGreatDoor
open Go.RowKit
set_option maxHeartbeats 1000000 in
theorem countR_any (x : BitVec 256) (w : World) :
    Calls Tryz.prog 104 #[sv x] w fun e w' => e = .returned (.int .i64 (cnt x)) ∧ Below w.heap.size w w' := by
  have HR := (show Hid _ from below1 w (c4 x))
  have HL : Hid ((asText (bys x)).size = cnt x) := (by show (asText (bys x)).size = cnt x; rw [asText_size, bys_len])
  go_enter Tryz.func104, Tryz.ntmps104
  go_wp2_with fail
  refine (bytesR_any x _).mono ?_
  rintro e w1 ⟨rfl, hb⟩
  have HR1 := (show Hid _ from HR.out.trans (hb.mono (by simp)))
  clear hb
  go_wp2
  go_ret
  exact ⟨ret_int (by rw [HL.out]), HR1.out⟩

theorem not0_any (w : World) :
    Calls Tryz.prog 149 #[.agg #[.int .u64 0, .int .u64 0, .int .u64 0, .int .u64 0]] w fun e w' => e = .returned (sv (~~~ 0#256)) ∧ Below w.heap.size w w' := by
  have h := not_any 0#256 w
  rw [sv, wd_zero, wd_zero, wd_zero, wd_zero] at h
  exact h

set_option maxRecDepth 100000 in
set_option maxHeartbeats 1000000 in
theorem full_any (x : BitVec 256) (w : World) :
    Calls Tryz.prog 125 #[sv x] w fun e w' => e = .returned (.bool (x == ~~~ 0#256)) ∧ Below w.heap.size w w' := by
  have heq := eq24
  have HR := (show Hid _ from below1 w (c4 x))
  have HX := (show Hid _ from Holds.new w x)
  generalize hq : ~~~ 0#256 = q
  have n0 : ∀ w, Calls Tryz.prog 149 #[.agg #[.int .u64 0, .int .u64 0, .int .u64 0, .int .u64 0]] w fun e w' => e = .returned (sv q) ∧ Below w.heap.size w w' := by rw [← hq]; exact not0_any
  have N0 := (show Hid _ from n0)
  clear n0 hq
  go_enter Tryz.func125, Tryz.ntmps125
  go_wp2
  go_region_with ((go_at_call 149; refine (N0.out _).mono ?_; rintro e w1 ⟨rfl, hb⟩; obtain ⟨l0, c0, c1, c2, c3, f0, f1, f2, f3⟩ := (by first | exact HX.out.drew.below hb (by simp) | exact HX.out.below hb (by simp)); replace HR := (show Hid _ from (by first | exact HR.out.drew.trans (hb.mono (by simp)) | exact HR.out.trans (hb.mono (by simp))))))
  all_goals
    go_wp2
    go_ret
    exact ⟨rfl, HR.out⟩
end Go.Proofs.YtnpifgcgjgddoaaGreatDoor

namespace Go.Proofs.YtnpifgcgjgddoaaGreatDoor
open Go.RowKit
theorem spL_ok (bs : List Int) (p : Int × Int) (h : p ∈ spL bs) : p.1 ≤ p.2 := by
  have key : ∀ n (bs : List Int), bs.length = n → ∀ p ∈ spL bs, p.1 ≤ p.2 := fun n => by
    induction n with
    | zero => intro bs h p hp; rw [List.eq_nil_of_length_eq_zero h] at hp; simp [spL] at hp
    | succ n ih =>
      intro bs h p hp
      rcases snoc_cases bs with rfl | ⟨m, b, rfl⟩
      · simp at h
      · have ihm := ih m (by simp at h; exact h)
        rw [spL_snoc] at hp
        rcases snoc_cases (spL m) with hs | ⟨l, ⟨lo, hi⟩, hs⟩
        · rw [hs] at hp; simp [spStep] at hp; subst hp; exact Int.le_refl _
        · rw [hs] at hp ihm
          by_cases e : hi + 1 = b
          · rw [spStep_hit _ _ _ _ e] at hp
            rcases List.mem_append.1 hp with h1 | h1
            · exact ihm p (List.mem_append_left _ h1)
            · simp at h1; subst h1
              have := ihm (lo, hi) (by simp)
              simp at this ⊢; omega
          · rw [spStep_miss _ _ _ _ e] at hp
            rcases List.mem_append.1 hp with h1 | h1
            · exact ihm p h1
            · simp at h1; subst h1; exact Int.le_refl _
  exact key _ bs rfl p h

theorem bys_byte (x : BitVec 256) (b : Int) (h : b ∈ bys x) : 0 ≤ b ∧ b < 256 := bysTo_bd x 256 b h
theorem spL_from (bs : List Int) (p : Int × Int) (h : p ∈ spL bs) : p.1 ∈ bs ∧ p.2 ∈ bs := by
  have key : ∀ n (bs : List Int), bs.length = n → ∀ p ∈ spL bs, p.1 ∈ bs ∧ p.2 ∈ bs := fun n => by
    induction n with
    | zero => intro bs h p hp; rw [List.eq_nil_of_length_eq_zero h] at hp; simp [spL] at hp
    | succ n ih =>
      intro bs h p hp
      rcases snoc_cases bs with rfl | ⟨m, b, rfl⟩
      · simp at h
      · have ihm := ih m (by simp at h; exact h)
        rw [spL_snoc] at hp
        rcases snoc_cases (spL m) with hs | ⟨l, ⟨lo, hi⟩, hs⟩
        · rw [hs] at hp; simp [spStep] at hp; subst hp; simp
        · rw [hs] at hp ihm
          have inl : ∀ q ∈ l ++ [(lo, hi)], q.1 ∈ m ++ [b] ∧ q.2 ∈ m ++ [b] := fun q hq => ⟨List.mem_append_left _ (ihm q hq).1, List.mem_append_left _ (ihm q hq).2⟩
          by_cases e : hi + 1 = b
          · rw [spStep_hit _ _ _ _ e] at hp
            rcases List.mem_append.1 hp with h1 | h1
            · exact inl p (List.mem_append_left _ h1)
            · simp at h1; subst h1
              exact ⟨(inl (lo, hi) (by simp)).1, by simp⟩
          · rw [spStep_miss _ _ _ _ e] at hp
            rcases List.mem_append.1 hp with h1 | h1
            · exact inl p h1
            · simp at h1; subst h1; simp
  exact key _ bs rfl p h
theorem spL_len256 (x : BitVec 256) : (spL (bys x)).length ≤ 256 := Nat.le_trans (spL_len _) (by rw [bys_len]; exact cnt_le x)
theorem spL_byte (x : BitVec 256) (p : Int × Int) (h : p ∈ spL (bys x)) : 0 ≤ p.1 ∧ p.1 ≤ p.2 ∧ p.2 < 256 :=
  ⟨(bys_byte x _ (spL_from _ p h).1).1, spL_ok _ p h, (bys_byte x _ (spL_from _ p h).2).2⟩

/-- The members of a class text, behind one another. -/
def mems (l : List (Int × Int)) : List UInt8 := l.flatMap fun p => spT p.1.toNat p.2.toNat
theorem mems_snoc (l : List (Int × Int)) (p : Int × Int) : mems (l ++ [p]) = mems l ++ spT p.1.toNat p.2.toNat := by unfold mems; rw [List.flatMap_append]; simp
def fulB (x : BitVec 256) : Bool := x == ~~~ 0#256
/-- The class text of a set. -/
def shT (x : BitVec 256) : List UInt8 := if fulB x then [91, 94, 93] else 91 :: mems (spL (bys x)) ++ [93]
theorem fulB_any (x : BitVec 256) (w : World) : Calls Tryz.prog 125 #[sv x] w fun e w' => e = .returned (.bool (fulB x)) ∧ Below w.heap.size w w' := full_any x w
theorem itm_len (b : Nat) : (itm b).length ≤ 4 := by
  unfold itm
  repeat' split
  all_goals simp
theorem spT_len (lo hi : Nat) : (spT lo hi).length ≤ 9 := by
  have h1 := itm_len lo
  have h2 := itm_len hi
  unfold spT
  repeat' split
  · omega
  · rw [List.length_append]; omega
  · rw [List.length_append, List.length_append]; simp only [List.length_singleton]; omega
theorem mems_cons (p : Int × Int) (l : List (Int × Int)) : mems (p :: l) = spT p.1.toNat p.2.toNat ++ mems l := by unfold mems; rw [List.flatMap_cons]
theorem mems_len (l : List (Int × Int)) : (mems l).length ≤ 9 * l.length := by
  induction l with
  | nil => simp [mems]
  | cons p l ih => have := spT_len p.1.toNat p.2.toNat; rw [mems_cons, List.length_append, List.length_cons]; omega

theorem bld_below {w w' : World} {b : Nat} {bs : List Value} (h : Lib.IsBuilder 57 5 b b bs w) (hb : Below w.heap.size w w') : Lib.IsBuilder 57 5 b b bs w' := by
  have key : ∀ p, Lib.BuilderAt 57 5 b b p bs w → Lib.BuilderAt 57 5 b b p bs w' := fun p hp => by
    have hlt := hp.lt
    obtain ⟨hB, v, hbk, hown, hne⟩ := hp
    exact ⟨hB, v, (hb.block b hlt).trans hbk, own_below hown hb (by omega), hne⟩
  exact h.imp (key _) (key _)
theorem own_keepT {w w' : World} {b base : Nat} {v : Value} {n : Nat} {xs : List Value} (h : w.ownsRow base 152 2 v n xs) (hk : KeepT b w w') (hb : b < base) : w'.ownsRow base 152 2 v n xs := by
  refine ⟨h.1, h.2.imp id ?_⟩
  rintro ⟨g, cap, cur, h1, h2, h3, h4⟩
  have hlt : g < w.heap.size := (h.lt g (by rw [h1]; rfl)).2
  exact ⟨g, cap, cur, h1, h2, (hk.block g hlt (by omega) (fun c fr e => by rw [h3] at e; cases e)).trans h3, h4⟩

theorem alloc_size (w : World) (o : Obj) : (w.alloc o).heap.size = w.heap.size + 1 := by simp
theorem own_below' {w w' : World} {base e size : Nat} {v : Value} {n : Nat} {xs : List Value} (h : w.ownsRow base e size v n xs) (hb : Below w.heap.size w w') : w'.ownsRow base e size v n xs := by
  refine h.kept (row := none) ⟨hb.os, hb.tape, hb.output, hb.size, fun k hk _ => hb.block k hk⟩ ?_
  cases h2 : v.ownBlock
  · exact .inl rfl
  · exact .inr (by simp)
theorem bld_more {w : World} {b : Nat} {c : UInt8} {m l : List UInt8} (h : Lib.IsBuilder 57 5 b b (Lib.byteCells (c :: m) ++ Lib.strCells ⟨l.toArray⟩) w) : Lib.IsBuilder 57 5 b b (Lib.byteCells (c :: (m ++ l))) w := by
  rw [Lib.strCells_eq, ← Lib.byteCells_append] at h; exact h
theorem bld_more1 {w : World} {b : Nat} {m : List UInt8} (h : Lib.IsBuilder 57 5 b b (Lib.byteCells m ++ [.int .u8 93]) w) : Lib.IsBuilder 57 5 b b (Lib.byteCells (m ++ [93])) w := by
  rw [Lib.byteCells_append]; exact h
theorem len_str {SL : List (Int × Int)} {k lo hi : Nat} (h : SL.length ≤ 256) : (Lib.byteCells (91 :: mems (SL.take k))).length + (⟨(spT lo hi).toArray⟩ : ByteArray).size ≤ 140737488355328 := by
  rw [Lib.byteCells_length, List.length_cons]
  have h1 := mems_len (SL.take k)
  have h2 := spT_len lo hi
  have h3 : (SL.take k).length ≤ 256 := by rw [List.length_take]; omega
  show _ + (spT lo hi).toArray.size ≤ _
  rw [List.size_toArray]
  omega
theorem len_end {SL : List (Int × Int)} (h : SL.length ≤ 256) : (Lib.byteCells (91 :: mems SL)).length + 1 ≤ 140737488355328 := by
  rw [Lib.byteCells_length, List.length_cons]
  have h1 := mems_len SL
  omega
theorem step_at (SL : List (Int × Int)) (k : Nat) (h : k < SL.length) (hok : ∀ p ∈ SL, 0 ≤ p.1 ∧ p.1 ≤ p.2 ∧ p.2 < 256) :
    ∃ lo hi : Nat, lo ≤ hi ∧ hi < 256 ∧ (SL[k]).1 = (lo : Int) ∧ (SL[k]).2 = (hi : Int) ∧ mems (SL.take (k + 1)) = mems (SL.take k) ++ spT lo hi := by
  obtain ⟨h1, h2, h3⟩ := hok _ (List.getElem_mem h)
  refine ⟨(SL[k]).1.toNat, (SL[k]).2.toNat, by omega, by omega, by omega, by omega, ?_⟩
  rw [← mems_snoc, List.take_append_getElem h]
theorem read_at {w : World} {base : Nat} {g : Option Addr} {cap k : Nat} {SL : List (Int × Int)} (h : w.ownsRow base 152 2 (.slice g SL.length cap) SL.length (spc SL)) (hk : k < SL.length) :
    ∃ g', g = some ⟨g', 0, none⟩ ∧ w.cell? ⟨g', k * 2, none⟩ = some (.int .i64 (SL[k]).1) ∧ w.cell? ⟨g', k * 2 + 1, none⟩ = some (.int .i64 (SL[k]).2) := by
  rcases h.2 with ⟨hv, h0⟩ | ⟨g', cap', cur, hv, hr⟩
  · omega
  · cases hv
    exact ⟨g', rfl, (h.cellAt (k * 2) (by omega)).trans (spc_lo SL k hk), (h.cellAt (k * 2 + 1) (by omega)).trans (spc_hi SL k hk)⟩

set_option maxRecDepth 100000 in
set_option maxHeartbeats 2000000 in
theorem show_any (x : BitVec 256) (w : World) :
    Calls Tryz.prog 101 #[sv x] w fun e w' => e = .returned (.string ⟨(shT x).toArray⟩) ∧ Below w.heap.size w w' := by
  have HX := (show Hid _ from Holds.new w x)
  have HB := (show Hid _ from below1 w (c4 x))
  cases hf : fulB x
  · have HE : Hid (shT x = 91 :: mems (spL (bys x)) ++ [93]) := (by show shT x = _; unfold shT; rw [hf]; rfl)
    go_enter Tryz.func101, Tryz.ntmps101
    go_wp2_with fail
    refine (fulB_any x _).mono ?_
    rintro e w1 ⟨rfl, hb⟩
    have HX1 := (show Hid _ from HX.out.below hb (by simp))
    have HB1 := (show Hid _ from HB.out.trans (hb.mono (by simp)))
    have hs1 : w.heap.size < w1.heap.size := HX1.out.lt
    have hbl := (show Hid _ from Lib.fresh_isBuilder 57 5 w1)
    clear hb HX HB
    go_wp2_with fail
    refine (writeByte_any w1.heap.size [] 91 _ hbl.out (by simp)).mono ?_
    rintro e w2 ⟨rfl, hb, hb2, hk2⟩
    have HL2 := (show Hid _ from hb)
    have hs2 : w1.heap.size < w2.heap.size := by have := hb2.size; simp at this; omega
    have HB2 := (show Hid _ from (HB1.out.alloc (by omega) _).trans (hb2.mono (by omega)))
    have HX2 := (show Hid _ from (HX1.out.alloc _).below hb2 (by omega))
    clear hb hb2 hk2 hbl HB1 HX1
    obtain ⟨x0, x1, x2, x3⟩ := (⟨HX2.out.c0, HX2.out.c1, HX2.out.c2, HX2.out.c3⟩ : _ ∧ _ ∧ _ ∧ _)
    go_wp2_with fail
    refine (spans_any x _).mono ?_
    rintro e w3 ⟨v, rfl, hro, hnil, hb3⟩
    have HL3 := (show Hid _ from bld_below HL2.out hb3)
    have HB3 := (show Hid _ from HB2.out.trans (hb3.mono (by omega)))
    have hs3 := hb3.size
    have HR := (show Hid _ from hro)
    have hsl : ∃ g cap, v = .slice g (spL (bys x)).length cap := by
      rcases hro.2 with ⟨hv, h0⟩ | ⟨g, cap, cur, hv, _⟩
      · exact ⟨_, _, by rw [h0]; exact hv⟩
      · exact ⟨_, _, hv⟩
    obtain ⟨g, cap, rfl⟩ := hsl
    have HZ : Hid ((spL (bys x)).length ≤ 256) := (show (spL (bys x)).length ≤ 256 from spL_len256 x)
    have HOK : Hid (∀ p ∈ spL (bys x), 0 ≤ p.1 ∧ p.1 ≤ p.2 ∧ p.2 < 256) := (fun p hp => spL_byte x p hp)
    clear hro hnil hb3 HX2 x0 x1 x2 x3
    have HME : Hid (shT x = 91 :: mems (spL (bys x)) ++ [93]) := HE
    clear HE
    generalize spL (bys x) = SL at *
    go_wp2
    go_loopw [12] (fun t wr => ∃ k : Nat, k ≤ SL.length ∧ t = .int .i64 k ∧ Hid (Lib.IsBuilder 57 5 w1.heap.size w1.heap.size (Lib.byteCells (91 :: mems (SL.take k))) wr ∧ wr.ownsRow (w2.heap.size + 1) 152 2 (.slice g SL.length cap) SL.length (spc SL) ∧ Below w.heap.size w wr ∧ w3.heap.size ≤ wr.heap.size)) (fun t _ => SL.length - (intOf t).toNat)
    case atStart => exact ⟨0, by omega, rfl, HL3.out, HR.out, HB3.out, Nat.le_refl _⟩
    case round =>
      obtain ⟨k, hk, rfl, HI⟩ := hrel
      have hz := HZ.out
      by_cases hlt : k < SL.length
      · have hk0 : (0 : Int) ≤ (k : Int) := by omega
        have hk1 : (k : Int) < (SL.length : Int) := by omega
        obtain ⟨lo, hi, hle, hh, e1, e2, hmem⟩ := step_at SL k hlt HOK.out
        obtain ⟨g', rfl, c0, c1⟩ := read_at HI.out.2.1 hlt
        rw [e1] at c0
        rw [e2] at c1
        have hkl : k * 2 + 1 < 2 * SL.length := by omega
        go_wp2_with fail
        refine (showSpan_any lo hi hle hh _).mono ?_
        rintro e w4 ⟨rfl, hb4⟩
        have hs4 := hb4.size
        simp only [alloc_size] at hs4
        have ha4 : Below wr.heap.size wr w4 := ((Below.refl wr.heap.size wr).alloc (Nat.le_refl _) _).trans (hb4.mono (by simp))
        have hL4 := bld_below HI.out.1 ha4
        have hO4 := own_below' HI.out.2.1 ha4
        have hB4 := HI.out.2.2.1.trans (ha4.mono HI.out.2.2.1.size)
        have hz4 := HI.out.2.2.2
        have HL4 := (show Hid _ from hL4)
        have HJ := (show Hid _ from (⟨hO4, hB4, (by omega : w3.heap.size ≤ w4.heap.size)⟩ : _ ∧ _ ∧ _))
        clear hb4 ha4 hL4 hO4 hB4 hz4 HI c0 c1
        go_wp2_with fail
        refine (writeString_any w1.heap.size _ _ _ HL4.out ?_).mono ?_
        · exact len_str HZ.out
        rintro e w5 ⟨rfl, hb, hb5, hk5⟩
        have HL5 := (show Hid _ from hb)
        have HK := (show Hid _ from (⟨own_keepT HJ.out.1 hk5 (by omega), HJ.out.2.1.trans (hb5.mono (by omega)), Nat.le_trans HJ.out.2.2 hk5.size⟩ : _ ∧ _ ∧ _))
        clear hb hb5 hk5 HL4 HJ
        go_wp2
        go_roundw
        case rel => exact ⟨k + 1, by omega, by go_num, by rw [hmem]; exact bld_more HL5.out, HK.out.1, HK.out.2.1, HK.out.2.2⟩
        case measure => simp [intOf]; omega
      · obtain rfl : k = SL.length := by omega
        rw [List.take_length] at HI
        go_wp2_with fail
        refine (writeByte_any w1.heap.size _ 93 _ HI.out.1 ?_).mono ?_
        · exact len_end HZ.out
        rintro e w5 ⟨rfl, hb, hb5, hk5⟩
        have HL5 := (show Hid (Lib.IsBuilder 57 5 w1.heap.size w1.heap.size (Lib.byteCells (shT x)) w5) from (by rw [HME.out]; exact bld_more1 hb))
        have HB5 := (show Hid _ from HI.out.2.2.1.trans (hb5.mono (by omega)))
        have hs5 := hk5.size
        have hs6 := HI.out.2.2.2
        clear hb hb5 hk5
        go_wp2_with fail
        refine (Tryz.Builder_String_any w1.heap.size w1.heap.size (shT x) _ HL5.out (by omega)).mono ?_
        rintro e w6 ⟨rfl, hb6⟩
        have HB6 := (show Hid _ from HB5.out.trans (hb6.mono (by omega)))
        clear hb6
        go_wp2
        go_ret
        exact ⟨rfl, HB6.out⟩
  · have HE : Hid (shT x = [91, 94, 93]) := (by show shT x = _; unfold shT; rw [hf]; rfl)
    go_enter Tryz.func101, Tryz.ntmps101
    go_wp2_with fail
    refine (fulB_any x _).mono ?_
    rintro e w1 ⟨rfl, hb⟩
    have HB1 := (show Hid _ from HB.out.trans (hb.mono (by simp)))
    clear hb
    go_wp2
    go_ret
    exact ⟨by rw [HE.out]; rfl, HB1.out⟩
end Go.Proofs.YtnpifgcgjgddoaaGreatDoor

namespace Go.Proofs.YtnpifgcgjgddoaaGreatDoor
open Go.RowKit
/-- A list of bytes as a text. -/
abbrev tx8 (l : List UInt8) : ByteArray := ⟨l.toArray⟩
/-- The byte at a place of a list, or -1. -/
def chL (l : List UInt8) (i : Nat) : Int := match l[i]? with
  | some c => (c.toNat : Int)
  | none => -1
theorem tx_size (l : List UInt8) : (tx8 l).size = l.length := rfl
theorem chr_tx (l : List UInt8) (i : Nat) : chr (tx8 l) i = chL l i := by
  unfold chr chL
  by_cases h : i < l.length
  · rw [dif_pos (show i < (tx8 l).size from h), List.getElem?_eq_getElem h]
    rfl
  · rw [dif_neg (show ¬ i < (tx8 l).size from h), List.getElem?_eq_none (by omega)]
theorem chL_app (p r : List UInt8) (j : Nat) : chL (p ++ r) (p.length + j) = chL r j := by
  unfold chL
  rw [List.getElem?_append_right (by omega), Nat.add_sub_cancel_left]
theorem at0 (p r : List UInt8) : chr (tx8 (p ++ r)) p.length = chL r 0 := by rw [chr_tx]; exact chL_app p r 0
theorem atj (p r : List UInt8) (j : Nat) : chr (tx8 (p ++ r)) (p.length + j) = chL r j := by rw [chr_tx]; exact chL_app p r j
theorem of8 {b : Nat} (h : b < 256) : (UInt8.ofNat b).toNat = b := by rw [UInt8.toNat_ofNat']; omega
theorem hexV_hexD : ∀ n : Fin 16, hexV ((hexD n.val).toNat : Int) = (n.val : Int) := by decide
theorem sign_cases {b : Nat} (h : signB b = true) : b = 92 ∨ b = 93 ∨ b = 91 ∨ b = 94 ∨ b = 45 ∨ b = 37 := by
  simp [signB] at h; omega
theorem sign_not {b : Nat} (h : ¬ signB b = true) : b ≠ 92 ∧ b ≠ 93 ∧ b ≠ 91 ∧ b ≠ 94 ∧ b ≠ 45 ∧ b ≠ 37 := by
  simp [signB] at h; omega

theorem rdItem_esc (p r : List UInt8) : rdItem (tx8 (p ++ (92 :: r))) p.length = rdEsc (tx8 (p ++ (92 :: r))) p.length := by
  unfold rdItem
  rw [at0]
  exact if_pos rfl
theorem rdEsc_at (p r : List UInt8) (c : UInt8) : chr (tx8 (p ++ (92 :: c :: r))) (p.length + 1) = (c.toNat : Int) := by rw [atj]; rfl
theorem rdItem_itm (p q : List UInt8) (b : Nat) (hb : b < 256) : rdItem (tx8 (p ++ (itm b ++ q))) p.length = some (b, p.length + (itm b).length) := by
  unfold itm
  split
  · subst b; rw [List.cons_append, rdItem_esc]; unfold rdEsc; rw [List.cons_append, rdEsc_at]; exact if_pos rfl
  split
  · subst b; rw [List.cons_append, rdItem_esc]; unfold rdEsc; rw [List.cons_append, rdEsc_at]; rfl
  split
  · subst b; rw [List.cons_append, rdItem_esc]; unfold rdEsc; rw [List.cons_append, rdEsc_at]; rfl
  split
  · rename_i hs
    rw [List.cons_append, rdItem_esc]; unfold rdEsc; rw [List.cons_append, rdEsc_at]
    rcases sign_cases hs with rfl | rfl | rfl | rfl | rfl | rfl <;> rfl
  split
  · rename_i hs hp
    obtain ⟨s1, s2, s3, s4, s5, s6⟩ := sign_not hs
    have e : chL ([UInt8.ofNat b] ++ q) 0 = (b : Int) := by show ((UInt8.ofNat b).toNat : Int) = b; rw [of8 hb]
    unfold rdItem; rw [at0, e, if_neg (by omega), if_neg (by rw [hp]; simp; omega)]; rfl
  · have e2 : chL ([92, 120, hexD (b / 16), hexD (b % 16)] ++ q) 2 = ((hexD (b / 16)).toNat : Int) := rfl
    have e3 : chL ([92, 120, hexD (b / 16), hexD (b % 16)] ++ q) 3 = ((hexD (b % 16)).toNat : Int) := rfl
    have h2 := hexV_hexD ⟨b / 16, by omega⟩
    have h3 := hexV_hexD ⟨b % 16, by omega⟩
    simp only at h2 h3
    have k : rdHex (tx8 (p ++ ([92, 120, hexD (b / 16), hexD (b % 16)] ++ q))) p.length = some (b, p.length + 4) := by
      unfold rdHex
      rw [atj, atj, e2, e3, h2, h3, if_pos (by omega)]
      congr 2
      omega
    rw [List.cons_append, rdItem_esc]
    unfold rdEsc
    rw [List.cons_append, rdEsc_at]
    exact k
theorem head_itm (b : Nat) (hb : b < 256) (q : List UInt8) : chL (itm b ++ q) 0 ≠ 45 ∧ chL (itm b ++ q) 0 ≠ 37 ∧ chL (itm b ++ q) 0 ≠ 93 ∧ chL (itm b ++ q) 0 ≠ 94 := by
  have h92 : ∀ r : List UInt8, chL (92 :: r) 0 = 92 := fun _ => rfl
  unfold itm
  split
  · rw [List.cons_append, h92]; decide
  split
  · rw [List.cons_append, h92]; decide
  split
  · rw [List.cons_append, h92]; decide
  split
  · rw [List.cons_append, h92]; decide
  split
  · rename_i hs hp
    obtain ⟨s1, s2, s3, s4, s5, s6⟩ := sign_not hs
    have e : chL ([UInt8.ofNat b] ++ q) 0 = (b : Int) := by show ((UInt8.ofNat b).toNat : Int) = b; rw [of8 hb]
    rw [e]; omega
  · rw [List.cons_append, h92]; decide
theorem itm_pos (b : Nat) : 1 ≤ (itm b).length := by
  unfold itm
  repeat' split
  all_goals simp

theorem mem_one (p q : List UInt8) (b : Nat) (hb : b < 256) (hq : chL q 0 ≠ 45) : rdMember (tx8 (p ++ (itm b ++ q))) p.length = .inl (spn b b, p.length + (itm b).length) := by
  unfold rdMember
  rw [at0, if_neg (head_itm b hb q).2.1, rdItem_itm p q b hb]
  have e : chr (tx8 (p ++ (itm b ++ q))) (p.length + (itm b).length) = chL q 0 := by
    rw [← List.append_assoc, ← List.length_append]; exact at0 _ q
  exact if_neg (by rw [e]; exact hq)
theorem mem_span (p q : List UInt8) (lo hi : Nat) (hlo : lo < 256) (hhi : hi < 256) (hle : lo ≤ hi) : rdMember (tx8 (p ++ (itm lo ++ (45 :: (itm hi ++ q))))) p.length = .inl (spn lo hi, p.length + (itm lo).length + 1 + (itm hi).length) := by
  unfold rdMember
  rw [at0, if_neg (head_itm lo hlo _).2.1, rdItem_itm p _ lo hlo]
  have e : chr (tx8 (p ++ (itm lo ++ (45 :: (itm hi ++ q))))) (p.length + (itm lo).length) = 45 := by
    rw [← List.append_assoc, ← List.length_append, at0]; rfl
  have e2 : rdItem (tx8 (p ++ (itm lo ++ (45 :: (itm hi ++ q))))) (p.length + (itm lo).length + 1) = some (hi, p.length + (itm lo).length + 1 + (itm hi).length) := by
    have h := rdItem_itm (p ++ itm lo ++ [45]) q hi hhi
    rw [show p ++ itm lo ++ [45] ++ (itm hi ++ q) = p ++ (itm lo ++ (45 :: (itm hi ++ q))) from by simp] at h
    have hlen : (p ++ itm lo ++ [(45 : UInt8)]).length = p.length + (itm lo).length + 1 := by simp; omega
    rw [hlen] at h
    exact h
  refine (if_pos e).trans ?_
  rw [e2]
  exact if_neg (by omega)

/-- The union of spans. -/
def unL (l : List (Int × Int)) (s : BitVec 256) : BitVec 256 := l.foldl (fun s p => s ||| spn p.1 p.2) s
theorem unL_cons (p : Int × Int) (l : List (Int × Int)) (s : BitVec 256) : unL (p :: l) s = unL l (s ||| spn p.1 p.2) := rfl
theorem mems_cons' (p : Int × Int) (l : List (Int × Int)) : mems (p :: l) = spT p.1.toNat p.2.toNat ++ mems l := by unfold mems; rfl
theorem head_mems (l : List (Int × Int)) (hl : ∀ p ∈ l, 0 ≤ p.1 ∧ p.1 ≤ p.2 ∧ p.2 < 256) : chL (mems l ++ [93]) 0 ≠ 45 ∧ chL (mems l ++ [93]) 0 ≠ 94 := by
  cases l with
  | nil => decide
  | cons p l =>
    have h := hl p (by simp)
    rw [mems_cons']
    unfold spT
    split
    · rw [List.append_assoc]; have := head_itm p.1.toNat (by omega) (mems l ++ [93]); exact ⟨this.1, this.2.2.2⟩
    split
    · rw [List.append_assoc, List.append_assoc]; have := head_itm p.1.toNat (by omega) (itm p.2.toNat ++ (mems l ++ [93])); exact ⟨this.1, this.2.2.2⟩
    · rw [List.append_assoc, List.append_assoc, List.append_assoc]; have := head_itm p.1.toNat (by omega) ([45] ++ (itm p.2.toNat ++ (mems l ++ [93]))); exact ⟨this.1, this.2.2.2⟩
theorem spn_two (lo : Nat) (h : lo + 1 < 256) (s : BitVec 256) : s ||| spn lo lo ||| spn ((lo + 1 : Nat) : Int) ((lo + 1 : Nat) : Int) = s ||| spn lo ((lo + 1 : Nat) : Int) := by
  apply BitVec.eq_of_getLsbD_eq
  intro i _
  simp only [BitVec.getLsbD_or]
  rw [spn_get _ _ (by omega), spn_get _ _ (by omega), spn_get _ _ (by omega), Bool.or_assoc]
  congr 1
  rw [Bool.eq_iff_iff]
  simp
  omega

theorem rdMembers_mems : ∀ (l : List (Int × Int)), (∀ p ∈ l, 0 ≤ p.1 ∧ p.1 ≤ p.2 ∧ p.2 < 256) → ∀ (p : List UInt8) (s : BitVec 256) (f : Nat), (mems l).length + 1 ≤ f →
    rdMembers (tx8 (p ++ (mems l ++ [93]))) f s p.length = .inl (unL l s, p.length + (mems l).length) := by
  intro l
  induction l with
  | nil =>
    intro _ p s f hf
    obtain ⟨g, rfl⟩ : ∃ g, f = g + 1 := ⟨f - 1, by simp [mems] at hf; omega⟩
    rw [rdMembers_end (by rw [at0]; rfl)]
    rfl
  | cons a l ih =>
    intro hl p s f hf
    have h := hl a (by simp)
    have hl' : ∀ q ∈ l, 0 ≤ q.1 ∧ q.1 ≤ q.2 ∧ q.2 < 256 := fun q hq => hl q (List.mem_cons_of_mem _ hq)
    have hm := head_mems l hl'
    obtain ⟨g, rfl⟩ : ∃ g, f = g + 1 := ⟨f - 1, by omega⟩
    obtain ⟨lo, hlo⟩ : ∃ lo : Nat, a.1 = lo := ⟨a.1.toNat, by omega⟩
    obtain ⟨hi, hhi⟩ : ∃ hi : Nat, a.2 = hi := ⟨a.2.toNat, by omega⟩
    have i1 := itm_pos lo
    have i2 := itm_pos hi
    rw [mems_cons', unL_cons, hlo, hhi, Int.toNat_natCast, Int.toNat_natCast]
    rw [mems_cons', hlo, hhi, Int.toNat_natCast, Int.toNat_natCast] at hf
    unfold spT at hf ⊢
    split
    · rename_i h0
      obtain rfl : hi = lo := by omega
      rw [if_pos h0, List.length_append] at hf
      rw [List.append_assoc, rdMembers_step (by rw [at0]; exact (head_itm hi (by omega) _).2.2.1) (mem_one p _ hi (by omega) hm.1)]
      have := ih hl' (p ++ itm hi) (s ||| spn hi hi) g (by omega)
      rw [List.append_assoc, List.length_append] at this
      rw [this, List.length_append]
      congr 2
      omega
    · rename_i h0
      rw [if_neg h0] at hf
      split
      · rename_i h1
        obtain rfl : hi = lo + 1 := by omega
        rw [if_pos h1, List.length_append, List.length_append] at hf
        obtain ⟨g', rfl⟩ : ∃ g', g = g' + 1 := ⟨g - 1, by omega⟩
        rw [List.append_assoc, List.append_assoc, rdMembers_step (by rw [at0]; exact (head_itm lo (by omega) _).2.2.1) (mem_one p _ lo (by omega) (head_itm (lo + 1) (by omega) _).1)]
        have e := mem_one (p ++ itm lo) (mems l ++ [93]) (lo + 1) (by omega) hm.1
        rw [List.append_assoc, List.length_append] at e
        have e0 : ¬ chr (tx8 (p ++ (itm lo ++ (itm (lo + 1) ++ (mems l ++ [93]))))) (p.length + (itm lo).length) = 93 := by
          rw [← List.append_assoc, ← List.length_append, at0]; exact (head_itm (lo + 1) (by omega) _).2.2.1
        rw [rdMembers_step e0 e]
        have := ih hl' (p ++ itm lo ++ itm (lo + 1)) (s ||| spn lo lo ||| spn ((lo + 1 : Nat) : Int) ((lo + 1 : Nat) : Int)) g' (by omega)
        rw [List.append_assoc, List.append_assoc, List.length_append, List.length_append] at this
        rw [this, List.length_append, List.length_append, spn_two lo (by omega)]
        congr 2
        omega
      · rename_i h1
        rw [if_neg h1, List.length_append, List.length_append, List.length_append] at hf
        rw [show itm lo ++ [45] ++ itm hi ++ mems l ++ [93] = itm lo ++ (45 :: (itm hi ++ (mems l ++ [93]))) from by simp]
        rw [rdMembers_step (by rw [at0]; exact (head_itm lo (by omega) _).2.2.1) (mem_span p _ lo hi (by omega) (by omega) (by omega))]
        have hlen : (p ++ itm lo ++ [(45 : UInt8)] ++ itm hi).length = p.length + (itm lo).length + 1 + (itm hi).length := by simp; omega
        have := ih hl' (p ++ itm lo ++ [45] ++ itm hi) (s ||| spn lo hi) g (by simp at hf; omega)
        rw [show p ++ itm lo ++ [45] ++ itm hi ++ (mems l ++ [93]) = p ++ (itm lo ++ (45 :: (itm hi ++ (mems l ++ [93])))) from by simp, hlen] at this
        rw [this]
        congr 2
        simp
        omega
end Go.Proofs.YtnpifgcgjgddoaaGreatDoor

namespace Go.Proofs.YtnpifgcgjgddoaaGreatDoor
open Go.RowKit
theorem unL_get (l : List (Int × Int)) (hl : ∀ p ∈ l, p.2 ≤ 255) (s : BitVec 256) (j : Nat) : (unL l s).getLsbD j = true ↔ s.getLsbD j = true ∨ ∃ p ∈ l, p.1 ≤ (j : Int) ∧ (j : Int) ≤ p.2 := by
  induction l generalizing s with
  | nil => simp [unL]
  | cons a l ih =>
    rw [unL_cons, ih (fun p hp => hl p (List.mem_cons_of_mem _ hp)), BitVec.getLsbD_or, spn_get _ _ (hl a (by simp))]
    simp only [Bool.or_eq_true, Bool.and_eq_true, decide_eq_true_eq, List.mem_cons, exists_eq_or_imp]
    constructor
    · rintro ((h | h) | h)
      · exact .inl h
      · exact .inr (.inl h)
      · exact .inr (.inr h)
    · rintro (h | h | h)
      · exact .inl (.inl h)
      · exact .inl (.inr h)
      · exact .inr h
theorem spL_cover (j : Int) : ∀ (n : Nat) (bs : List Int), bs.length = n → ((∃ p ∈ spL bs, p.1 ≤ j ∧ j ≤ p.2) ↔ j ∈ bs) := by
  intro n
  induction n with
  | zero => intro bs h; rw [List.eq_nil_of_length_eq_zero h]; simp [spL]
  | succ n ih =>
    intro bs h
    rcases snoc_cases bs with rfl | ⟨m, b, rfl⟩
    · simp at h
    · have ihm := ih m (by simp at h; exact h)
      have hok := spL_ok m
      rw [spL_snoc]
      rcases snoc_cases (spL m) with hs | ⟨l, ⟨lo, hi⟩, hs⟩
      · rw [hs] at ihm ⊢
        rw [List.mem_append, ← ihm]
        simp [spStep]
        omega
      · rw [hs] at ihm hok ⊢
        have hle := hok (lo, hi) (by simp)
        simp only at hle
        rw [List.mem_append, ← ihm]
        by_cases e : hi + 1 = b
        · rw [spStep_hit _ _ _ _ e]
          constructor
          · rintro ⟨p, hp, h1, h2⟩
            rcases List.mem_append.1 hp with h3 | h3
            · exact .inl ⟨p, List.mem_append_left _ h3, h1, h2⟩
            · simp at h3; subst h3
              simp only at h1 h2
              by_cases hj : j ≤ hi
              · exact .inl ⟨(lo, hi), by simp, h1, hj⟩
              · exact .inr (by simp; omega)
          · rintro (⟨p, hp, h1, h2⟩ | h1)
            · rcases List.mem_append.1 hp with h3 | h3
              · exact ⟨p, List.mem_append_left _ h3, h1, h2⟩
              · simp at h3; subst h3
                exact ⟨(lo, b), by simp, h1, by simp only at h2 ⊢; omega⟩
            · simp at h1; subst h1
              exact ⟨(lo, j), by simp, by simp only; omega, by simp only; omega⟩
        · rw [spStep_miss _ _ _ _ e]
          constructor
          · rintro ⟨p, hp, h1, h2⟩
            rcases List.mem_append.1 hp with h3 | h3
            · exact .inl ⟨p, h3, h1, h2⟩
            · simp at h3; subst h3; simp only at h1 h2; exact .inr (by simp; omega)
          · rintro (⟨p, hp, h1, h2⟩ | h1)
            · exact ⟨p, List.mem_append_left _ hp, h1, h2⟩
            · simp at h1; subst h1; exact ⟨(j, j), by simp, by simp only; omega, by simp only; omega⟩
theorem unL_spL (x : BitVec 256) : unL (spL (bys x)) 0#256 = x := by
  apply BitVec.eq_of_getLsbD_eq
  intro j hj
  rw [Bool.eq_iff_iff, unL_get _ (fun p hp => by have := spL_byte x p hp; omega), spL_cover (j : Int) _ (bys x) rfl]
  have h := bysTo_mem x 256 (j : Int)
  rw [show bys x = bysTo x 256 from rfl, h]
  simp
  omega
def isRd (r : Rd (BitVec 256 × Nat)) (x : BitVec 256) (n : Nat) : Bool := match r with
  | .inl p => p.1 == x && p.2 == n
  | .inr _ => false
theorem isRd_eq {r : Rd (BitVec 256 × Nat)} {x : BitVec 256} {n : Nat} (h : isRd r x n = true) : r = .inl (x, n) := by
  cases r with
  | inr q => cases h
  | inl p =>
    obtain ⟨a, b⟩ := p
    simp only [isRd, Bool.and_eq_true, beq_iff_eq] at h
    rw [h.1, h.2]
/-- The class text leads back. -/
theorem back_read (x : BitVec 256) : rdRead (tx8 (shT x)) 0 = .inl (x, (shT x).length) := by
  unfold shT
  cases hf : fulB x
  · rw [if_neg (by simp)]
    have hL := spL_byte x
    have hlen := spL_len256 x
    have hm := head_mems _ hL
    have hml := mems_len (spL (bys x))
    have key := rdMembers_mems _ hL [91] 0#256
    rw [unL_spL] at key
    generalize mems (spL (bys x)) = M at *
    have e0 : chr (tx8 (91 :: M ++ [93])) 0 = 91 := by rw [chr_tx]; rfl
    have e1 : chr (tx8 (91 :: M ++ [93])) 1 = chL (M ++ [93]) 0 := atj [91] (M ++ [93]) 0
    have hsz : (tx8 (91 :: M ++ [93])).size = M.length + 2 := by rw [tx_size]; simp
    have k := key ((tx8 (91 :: M ++ [93])).size + 1) (by rw [hsz]; omega)
    have hr : rdRead (tx8 (91 :: M ++ [93])) 0 = .inl (x, M.length + 2) := by
      unfold rdRead
      rw [if_neg (by omega), show Int.toNat 0 = 0 from rfl, if_pos e0, if_neg (by show ¬ chr _ 1 = 94; rw [e1]; exact hm.2)]
      show rdEnd (rdMembers (tx8 ([91] ++ (M ++ [93]))) _ 0#256 1) = _
      rw [show rdMembers (tx8 ([91] ++ (M ++ [93]))) ((tx8 (91 :: M ++ [93])).size + 1) 0#256 1 = .inl (x, [91].length + M.length) from k]
      show Sum.inl (x, [91].length + M.length + 1) = _
      congr 2
      simp
      omega
    rw [hr]
    congr 2
    simp
  · rw [if_pos rfl]
    have hx : x = ~~~ 0#256 := by simpa [fulB] using hf
    rw [hx]
    exact isRd_eq (by decide +kernel)
end Go.Proofs.YtnpifgcgjgddoaaGreatDoor

namespace Go.Proofs.YtnpifgcgjgddoaaGreatDoor
open Go.RowKit
theorem spN_eq {P : Int → Bool} {s : ByteArray} (hn : P (-1) = false) {i e : Nat} (hie : i ≤ e) (h : ∀ k, i ≤ k → k < e → P (chr s k) = true) (he : P (chr s e) = false) : spN P s i = e := by
  obtain ⟨h1, _, h3, h4⟩ := spN_spec P s hn _ i rfl
  by_cases q : spN P s i < e
  · rw [h _ h1 q] at h3; cases h3
  · by_cases q2 : e < spN P s i
    · rw [h4 e hie q2] at he; cases he
    · omega
/-- The bytes of two texts are the same, so many from two places on. -/
def Ag (s : ByteArray) (b : Nat) (s' : ByteArray) (b' : Nat) (m : Nat) : Prop := ∀ k, k < m → chr s' (b' + k) = chr s (b + k)
theorem Ag.at {s s' : ByteArray} {b b' m : Nat} (h : Ag s b s' b' m) {j j' : Nat} (hb : b ≤ j) (hj : j < b + m) (e : j' = b' + (j - b)) : chr s' j' = chr s j := by
  have := h (j - b) (by omega)
  rw [show b + (j - b) = j from by omega] at this
  rw [e]; exact this
theorem Ag.sub {s s' : ByteArray} {b b' m : Nat} (h : Ag s b s' b' m) (d : Nat) {m2 : Nat} (hm : d + m2 ≤ m) : Ag s (b + d) s' (b' + d) m2 := fun k hk => by
  have := h (d + k) (by omega)
  rw [Nat.add_assoc, Nat.add_assoc]; exact this
theorem run_move {P : Int → Bool} {s s' : ByteArray} (hn : P (-1) = false) {i i' m : Nat} (h : Ag s i s' i' m) (hs : spN P s i = i + m) (he : P (chr s' (i' + m)) = false) : spN P s' i' = i' + m := by
  obtain ⟨_, _, _, h4⟩ := spN_spec P s hn _ i rfl
  refine spN_eq hn (by omega) (fun k k1 k2 => ?_) he
  have := h (k - i') (by omega)
  rw [show i' + (k - i') = k from by omega] at this
  rw [this]
  exact h4 _ (by omega) (by omega)
theorem text_same {s s' : ByteArray} {b b' m : Nat} (h : Ag s b s' b' m) (h1 : b + m ≤ s.size) (h2 : b' + m ≤ s'.size) : s'.extract b' (b' + m) = s.extract b (b + m) := by
  apply ByteArray.ext
  apply Array.ext
  · show (s'.extract b' (b' + m)).size = (s.extract b (b + m)).size
    rw [ByteArray.size_extract, ByteArray.size_extract]; omega
  · intro k hk1 hk2
    have hk1' : k < (s'.extract b' (b' + m)).size := hk1
    have hk2' : k < (s.extract b (b + m)).size := hk2
    have hm : k < m := by rw [ByteArray.size_extract] at hk2'; omega
    have e1 := chr_ext (s := s') (a := b') (b := b' + m) (k := k) (by omega) h2
    have e2 := chr_ext (s := s) (a := b) (b := b + m) (k := k) (by omega) h1
    rw [h k hm, ← e2, chr_in hk1', chr_in hk2'] at e1
    exact (UInt8.toNat_inj.1 (Int.ofNat_inj.1 e1) : (s'.extract b' (b' + m))[k] = (s.extract b (b + m))[k])
end Go.Proofs.YtnpifgcgjgddoaaGreatDoor

namespace Go.Proofs.YtnpifgcgjgddoaaGreatDoor
open Go.RowKit
/-- A token at another place. -/
def mvT (t : Tk) (b' m : Nat) : Tk := { t with fr := b', en := (b' + m : Nat) }
theorem esc_move {s s' : ByteArray} {i i' m c n : Nat} (ha : Ag s i s' i' m) (h : escT s i = some (c, n)) (hn : n ≤ i + m) : escT s' i' = some (c, i' + (n - i)) := by
  have h2 := escT_lt h
  unfold escT at h ⊢
  have e1 : chr s' (i' + 1) = chr s (i + 1) := by
    by_cases q : 1 < m
    · exact ha 1 q
    · exfalso
      split at h; cases h; omega
      split at h; cases h; omega
      split at h; cases h; omega
      split at h; cases h; omega
      split at h; cases h; omega
      cases h
  rw [e1]
  split at h
  · next q => rw [if_pos q]; cases h; rw [show i + 2 - i = 2 from by omega]
  next q1 =>
  rw [if_neg q1]
  split at h
  · next q => rw [if_pos q]; cases h; rw [show i + 2 - i = 2 from by omega]
  next q2 =>
  rw [if_neg q2]
  split at h
  · next q => rw [if_pos q]; cases h; rw [show i + 2 - i = 2 from by omega]
  next q3 =>
  rw [if_neg q3]
  split at h
  · next q => rw [if_pos q]; cases h; rw [show i + 2 - i = 2 from by omega]
  next q4 =>
  rw [if_neg q4]
  split at h
  · next q =>
    cases h
    rw [ha 2 (by omega), ha 3 (by omega), if_pos q, show i + 4 - i = 4 from by omega]
  · cases h
theorem lit_move (s s' : ByteArray) (q : Int) (b b' : Nat) (hq : 0 ≤ q) : ∀ (f f' : Nat) (out : List Int) (i i' m : Nat) (t : Tk) (e : Nat), litGo s q b f out i = .inl t → t.en = e → e = i + m → Ag s i s' i' m → m ≤ f' → litGo s' q b' f' out i' = .inl { t with fr := b', en := (i' + m : Nat) } := by
  intro f
  induction f with
  | zero => intro f' out i i' m t e h; rw [litGo] at h; cases h
  | succ f ih =>
    intro f' out i i' m t e h he hm ha hf
    obtain ⟨e2, x1, x2, x3⟩ := litGo_en s q b hq _ _ _ _ h
    have : e2 = e := by omega
    subst this
    obtain ⟨f', rfl⟩ : ∃ g, f' = g + 1 := ⟨f' - 1, by omega⟩
    have h0 := ha 0 (by omega)
    rw [Nat.add_zero, Nat.add_zero] at h0
    rw [litGo] at h ⊢
    rw [h0]
    split at h
    · cases h
    next h1 =>
    rw [if_neg h1]
    split at h
    · next h2 =>
      rw [if_pos h2]
      split at h
      · cases h
      next h3 =>
      rw [if_neg h3]
      cases h
      have : m = 1 := by
        have he : ((i + 1 : Nat) : Int) = ((i + m : Nat) : Int) := by rw [← hm, ← he]; rfl
        omega
      subst this
      rfl
    next h2 =>
    rw [if_neg h2]
    split at h
    · cases h
    next h3 =>
    rw [if_neg h3]
    split at h
    · next h4 =>
      rw [if_pos h4]
      have h5 := litGo_en s q b hq _ _ _ _ h
      obtain ⟨e3, y1, y2, y3⟩ := h5
      have := ih f' (out ++ [chr s i]) (i + 1) (i' + 1) (m - 1) t e2 h he (by omega) (ha.sub 1 (by omega)) (by omega)
      rw [this, show i' + 1 + (m - 1) = i' + m from by omega]
    next h4 =>
    rw [if_neg h4]
    cases hx : escT s i with
    | none => rw [hx] at h; cases h
    | some p =>
      obtain ⟨c, n⟩ := p
      rw [hx] at h
      have h5 := escT_lt hx
      obtain ⟨e3, y1, y2, y3⟩ := litGo_en s q b hq _ _ _ _ h
      rw [esc_move ha hx (by omega)]
      have := ih f' (out ++ [(c : Int)]) n (i' + (n - i)) (m - (n - i)) t e2 h he (by omega) (by
        have h7 := ha.sub (n - i) (m2 := m - (n - i)) (by omega)
        rwa [show i + (n - i) = n from by omega] at h7) (by omega)
      show litGo s' q b' f' (out ++ [(c : Int)]) (i' + (n - i)) = _
      rw [this, show i' + (n - i) + (m - (n - i)) = i' + m from by omega]
theorem item_move {s s' : ByteArray} {i i' m c n : Nat} (ha : Ag s i s' i' m) (h : rdItem s i = some (c, n)) (hn : n ≤ i + m) : rdItem s' i' = some (c, i' + (n - i)) := by
  have hb := rdItem_bd h
  have h0 := ha 0 (by omega)
  rw [Nat.add_zero, Nat.add_zero] at h0
  unfold rdItem at h ⊢
  rw [h0]
  split at h
  · next q =>
    rw [if_pos q]
    unfold rdEsc at h ⊢
    have hm : 2 ≤ n - i := by
      split at h; cases h; omega
      split at h; cases h; omega
      split at h; cases h; omega
      split at h
      · unfold rdHex at h
        split at h
        · cases h; omega
        · cases h
      split at h
      · cases h; omega
      · cases h
    rw [ha 1 (by omega)]
    split at h
    · next q => rw [if_pos q]; cases h; rw [show i + 2 - i = 2 from by omega]
    next q1 =>
    rw [if_neg q1]
    split at h
    · next q => rw [if_pos q]; cases h; rw [show i + 2 - i = 2 from by omega]
    next q2 =>
    rw [if_neg q2]
    split at h
    · next q => rw [if_pos q]; cases h; rw [show i + 2 - i = 2 from by omega]
    next q3 =>
    rw [if_neg q3]
    split at h
    · next q =>
      rw [if_pos q]
      unfold rdHex at h ⊢
      split at h
      · next q5 =>
        cases h
        rw [ha 2 (by omega), ha 3 (by omega), if_pos q5, show i + 4 - i = 4 from by omega]
      · cases h
    next q4 =>
    rw [if_neg q4]
    split at h
    · next q5 => rw [if_pos q5]; cases h; rw [show i + 2 - i = 2 from by omega]
    · cases h
  · next q =>
    rw [if_neg q]
    split at h
    · cases h
    · next q2 => rw [if_neg q2]; cases h; rw [show i + 1 - i = 1 from by omega]
theorem member_move {s s' : ByteArray} {i i' m n : Nat} {y : BitVec 256} (ha : Ag s i s' i' m) (h : rdMember s i = .inl (y, n)) (hn : n < i + m) : rdMember s' i' = .inl (y, i' + (n - i)) := by
  have hb := rdMember_bd h
  have h0 := ha 0 (by omega)
  rw [Nat.add_zero, Nat.add_zero] at h0
  unfold rdMember at h ⊢
  rw [h0]
  split at h
  · next q =>
    rw [if_pos q]
    unfold rdClass at h ⊢
    split at h
    · next q2 =>
      cases h
      have e1 := ha 1 (by omega)
      have hlt : i' + 1 < s'.size := chr_lt (by rw [e1, chr_in q2.1]; omega)
      rw [e1, if_pos ⟨hlt, q2.2⟩, show i + 2 - i = 2 from by omega]
    · cases h
  · next q =>
    rw [if_neg q]
    cases hi : rdItem s i with
    | none => rw [hi] at h; cases h
    | some p =>
      obtain ⟨lo, n1⟩ := p
      rw [hi] at h
      have hb1 := rdItem_bd hi
      dsimp only at h
      split at h
      · next q45 =>
        cases hj : rdItem s (n1 + 1) with
        | none => rw [hj] at h; cases h
        | some p =>
          obtain ⟨hi2, e⟩ := p
          rw [hj] at h
          dsimp only at h
          have hb2 := rdItem_bd hj
          split at h
          · cases h
          · next q6 =>
            cases h
            rw [item_move ha hi (by omega)]
            dsimp only
            rw [ha.at (j := n1) (by omega) (by omega) rfl, if_pos q45]
            have := item_move (i' := i' + (n1 - i) + 1) (m := i + m - (n1 + 1)) (by
              have h7 := ha.sub (n1 + 1 - i) (m2 := i + m - (n1 + 1)) (by omega)
              rwa [show i + (n1 + 1 - i) = n1 + 1 from by omega, show i' + (n1 + 1 - i) = i' + (n1 - i) + 1 from by omega] at h7) hj (by omega)
            rw [this]
            dsimp only
            rw [if_neg q6, show i' + (n1 - i) + 1 + (n - (n1 + 1)) = i' + (n - i) from by omega]
      · next q45 =>
        cases h
        rw [item_move ha hi (by omega)]
        dsimp only
        rw [ha.at (j := n) (by omega) (by omega) rfl, if_neg q45]
theorem members_move (s s' : ByteArray) : ∀ (f f' : Nat) (x y : BitVec 256) (i i' m n : Nat), rdMembers s f x i = .inl (y, n) → Ag s i s' i' m → n < i + m → n - i < f' → rdMembers s' f' x i' = .inl (y, i' + (n - i)) := by
  intro f
  induction f with
  | zero => intro f' x y i i' m n h; rw [rdMembers] at h; cases h
  | succ f ih =>
    intro f' x y i i' m n h ha hn hf
    have hok := rdMembers_ok h
    obtain ⟨f', rfl⟩ : ∃ g, f' = g + 1 := ⟨f' - 1, by omega⟩
    have h0 := ha 0 (by omega)
    rw [Nat.add_zero, Nat.add_zero] at h0
    rw [rdMembers] at h ⊢
    rw [h0]
    split at h
    · next q => cases h; rw [if_pos q, Nat.sub_self, Nat.add_zero]
    · next q =>
      rw [if_neg q]
      cases hm : rdMember s i with
      | inr p => obtain ⟨a, c⟩ := p; rw [hm] at h; cases h
      | inl p =>
        obtain ⟨z, k⟩ := p
        rw [hm] at h
        dsimp only at h
        have hb := rdMember_bd hm
        have hok2 := rdMembers_ok h
        rw [member_move ha hm (by omega)]
        dsimp only
        have := ih f' (x ||| z) y k (i' + (k - i)) (i + m - k) n h (by
          have h7 := ha.sub (k - i) (m2 := i + m - k) (by omega)
          rwa [show i + (k - i) = k from by omega] at h7) (by omega) (by omega)
        rw [this, show i' + (k - i) + (n - k) = i' + (n - i) from by omega]
end Go.Proofs.YtnpifgcgjgddoaaGreatDoor

namespace Go.Proofs.YtnpifgcgjgddoaaGreatDoor
open Go.RowKit
/-- The sign that two bytes begin. -/
def sgC (c0 c1 : Int) : Int × List UInt8 :=
  if c0 = 37 then (if c1 = 101 then (29, [37, 101]) else if c1 = 102 then (30, [37, 102]) else (0, []))
  else if c0 = 94 then (if c1 = 43 then (14, [94, 43]) else if c1 = 45 then (15, [94, 45]) else (13, [94]))
  else if c0 = 60 then (if c1 = 45 then (6, [60, 45]) else (0, []))
  else if c0 = 45 then (if c1 = 62 then (27, [45, 62]) else (0, []))
  else if c0 = 47 then (7, [47])
  else if c0 = 38 then (8, [38])
  else if c0 = 33 then (9, [33])
  else if c0 = 63 then (10, [63])
  else if c0 = 42 then (11, [42])
  else if c0 = 43 then (12, [43])
  else if c0 = 40 then (16, [40])
  else if c0 = 41 then (17, [41])
  else if c0 = 46 then (18, [46])
  else if c0 = 123 then (if c1 = 58 then (21, [123, 58]) else if c1 = 124 then (23, [123, 124]) else if c1 = 126 then (25, [123, 126]) else (19, [123]))
  else if c0 = 58 then (if c1 = 125 then (22, [58, 125]) else (0, []))
  else if c0 = 124 then (if c1 = 125 then (24, [124, 125]) else (0, []))
  else if c0 = 126 then (if c1 = 125 then (26, [126, 125]) else (0, []))
  else if c0 = 125 then (20, [125]) else (0, [])
def pfC (c0 c1 : Int) : List UInt8 → Bool
  | [] => true
  | [x] => c0 == (x.toNat : Int)
  | x :: y :: _ => c0 == (x.toNat : Int) && c1 == (y.toNat : Int)
def sgGC (c0 c1 : Int) : List (Int × List UInt8) → Int × List UInt8
  | [] => (0, [])
  | p :: l => if pfC c0 c1 p.2 = true then p else sgGC c0 c1 l
theorem pfx_C (s : ByteArray) (b : Nat) (l : List UInt8) (h : l.length ≤ 2) : pfx s b l = pfC (chr s b) (chr s (b + 1)) l := by
  match l, h with
  | [], _ => rfl
  | [x], _ => show (chr s b == (x.toNat : Int) && true) = _; rw [Bool.and_true]; rfl
  | [x, y], _ => show (chr s b == (x.toNat : Int) && (chr s (b + 1) == (y.toNat : Int) && true)) = _; rw [Bool.and_true]; rfl
theorem sgGo_C (s : ByteArray) (b : Nat) : ∀ l : List (Int × List UInt8), (∀ p ∈ l, p.2.length ≤ 2) → sgGo s b l = sgGC (chr s b) (chr s (b + 1)) l := by
  intro l
  induction l with
  | nil => intro _; rfl
  | cons p l ih =>
    intro h
    rw [sgGo, sgGC, pfx_C s b p.2 (h p (List.mem_cons_self ..)), ih (fun q hq => h q (List.mem_cons_of_mem _ hq))]
theorem sgGC_C (c0 c1 : Int) : sgGC c0 c1 sgTab = sgC c0 c1 := by
  unfold sgC
  by_cases h37 : c0 = 37
  · subst h37; simp [sgTab, sgGC, pfC]
    try (by_cases a1 : c1 = 101 <;> by_cases a2 : c1 = 102 <;> by_cases a3 : c1 = 43 <;> by_cases a4 : c1 = 45 <;> by_cases a5 : c1 = 62 <;> by_cases a6 : c1 = 58 <;> by_cases a7 : c1 = 124 <;> by_cases a8 : c1 = 126 <;> by_cases a9 : c1 = 125 <;> simp [*])
  by_cases h94 : c0 = 94
  · subst h94; simp [sgTab, sgGC, pfC]
    try (by_cases a1 : c1 = 101 <;> by_cases a2 : c1 = 102 <;> by_cases a3 : c1 = 43 <;> by_cases a4 : c1 = 45 <;> by_cases a5 : c1 = 62 <;> by_cases a6 : c1 = 58 <;> by_cases a7 : c1 = 124 <;> by_cases a8 : c1 = 126 <;> by_cases a9 : c1 = 125 <;> simp [*])
  by_cases h60 : c0 = 60
  · subst h60; simp [sgTab, sgGC, pfC]
    try (by_cases a1 : c1 = 101 <;> by_cases a2 : c1 = 102 <;> by_cases a3 : c1 = 43 <;> by_cases a4 : c1 = 45 <;> by_cases a5 : c1 = 62 <;> by_cases a6 : c1 = 58 <;> by_cases a7 : c1 = 124 <;> by_cases a8 : c1 = 126 <;> by_cases a9 : c1 = 125 <;> simp [*])
  by_cases h45 : c0 = 45
  · subst h45; simp [sgTab, sgGC, pfC]
    try (by_cases a1 : c1 = 101 <;> by_cases a2 : c1 = 102 <;> by_cases a3 : c1 = 43 <;> by_cases a4 : c1 = 45 <;> by_cases a5 : c1 = 62 <;> by_cases a6 : c1 = 58 <;> by_cases a7 : c1 = 124 <;> by_cases a8 : c1 = 126 <;> by_cases a9 : c1 = 125 <;> simp [*])
  by_cases h47 : c0 = 47
  · subst h47; simp [sgTab, sgGC, pfC]
    try (by_cases a1 : c1 = 101 <;> by_cases a2 : c1 = 102 <;> by_cases a3 : c1 = 43 <;> by_cases a4 : c1 = 45 <;> by_cases a5 : c1 = 62 <;> by_cases a6 : c1 = 58 <;> by_cases a7 : c1 = 124 <;> by_cases a8 : c1 = 126 <;> by_cases a9 : c1 = 125 <;> simp [*])
  by_cases h38 : c0 = 38
  · subst h38; simp [sgTab, sgGC, pfC]
    try (by_cases a1 : c1 = 101 <;> by_cases a2 : c1 = 102 <;> by_cases a3 : c1 = 43 <;> by_cases a4 : c1 = 45 <;> by_cases a5 : c1 = 62 <;> by_cases a6 : c1 = 58 <;> by_cases a7 : c1 = 124 <;> by_cases a8 : c1 = 126 <;> by_cases a9 : c1 = 125 <;> simp [*])
  by_cases h33 : c0 = 33
  · subst h33; simp [sgTab, sgGC, pfC]
    try (by_cases a1 : c1 = 101 <;> by_cases a2 : c1 = 102 <;> by_cases a3 : c1 = 43 <;> by_cases a4 : c1 = 45 <;> by_cases a5 : c1 = 62 <;> by_cases a6 : c1 = 58 <;> by_cases a7 : c1 = 124 <;> by_cases a8 : c1 = 126 <;> by_cases a9 : c1 = 125 <;> simp [*])
  by_cases h63 : c0 = 63
  · subst h63; simp [sgTab, sgGC, pfC]
    try (by_cases a1 : c1 = 101 <;> by_cases a2 : c1 = 102 <;> by_cases a3 : c1 = 43 <;> by_cases a4 : c1 = 45 <;> by_cases a5 : c1 = 62 <;> by_cases a6 : c1 = 58 <;> by_cases a7 : c1 = 124 <;> by_cases a8 : c1 = 126 <;> by_cases a9 : c1 = 125 <;> simp [*])
  by_cases h42 : c0 = 42
  · subst h42; simp [sgTab, sgGC, pfC]
    try (by_cases a1 : c1 = 101 <;> by_cases a2 : c1 = 102 <;> by_cases a3 : c1 = 43 <;> by_cases a4 : c1 = 45 <;> by_cases a5 : c1 = 62 <;> by_cases a6 : c1 = 58 <;> by_cases a7 : c1 = 124 <;> by_cases a8 : c1 = 126 <;> by_cases a9 : c1 = 125 <;> simp [*])
  by_cases h43 : c0 = 43
  · subst h43; simp [sgTab, sgGC, pfC]
    try (by_cases a1 : c1 = 101 <;> by_cases a2 : c1 = 102 <;> by_cases a3 : c1 = 43 <;> by_cases a4 : c1 = 45 <;> by_cases a5 : c1 = 62 <;> by_cases a6 : c1 = 58 <;> by_cases a7 : c1 = 124 <;> by_cases a8 : c1 = 126 <;> by_cases a9 : c1 = 125 <;> simp [*])
  by_cases h40 : c0 = 40
  · subst h40; simp [sgTab, sgGC, pfC]
    try (by_cases a1 : c1 = 101 <;> by_cases a2 : c1 = 102 <;> by_cases a3 : c1 = 43 <;> by_cases a4 : c1 = 45 <;> by_cases a5 : c1 = 62 <;> by_cases a6 : c1 = 58 <;> by_cases a7 : c1 = 124 <;> by_cases a8 : c1 = 126 <;> by_cases a9 : c1 = 125 <;> simp [*])
  by_cases h41 : c0 = 41
  · subst h41; simp [sgTab, sgGC, pfC]
    try (by_cases a1 : c1 = 101 <;> by_cases a2 : c1 = 102 <;> by_cases a3 : c1 = 43 <;> by_cases a4 : c1 = 45 <;> by_cases a5 : c1 = 62 <;> by_cases a6 : c1 = 58 <;> by_cases a7 : c1 = 124 <;> by_cases a8 : c1 = 126 <;> by_cases a9 : c1 = 125 <;> simp [*])
  by_cases h46 : c0 = 46
  · subst h46; simp [sgTab, sgGC, pfC]
    try (by_cases a1 : c1 = 101 <;> by_cases a2 : c1 = 102 <;> by_cases a3 : c1 = 43 <;> by_cases a4 : c1 = 45 <;> by_cases a5 : c1 = 62 <;> by_cases a6 : c1 = 58 <;> by_cases a7 : c1 = 124 <;> by_cases a8 : c1 = 126 <;> by_cases a9 : c1 = 125 <;> simp [*])
  by_cases h123 : c0 = 123
  · subst h123; simp [sgTab, sgGC, pfC]
    try (by_cases a1 : c1 = 101 <;> by_cases a2 : c1 = 102 <;> by_cases a3 : c1 = 43 <;> by_cases a4 : c1 = 45 <;> by_cases a5 : c1 = 62 <;> by_cases a6 : c1 = 58 <;> by_cases a7 : c1 = 124 <;> by_cases a8 : c1 = 126 <;> by_cases a9 : c1 = 125 <;> simp [*])
  by_cases h58 : c0 = 58
  · subst h58; simp [sgTab, sgGC, pfC]
    try (by_cases a1 : c1 = 101 <;> by_cases a2 : c1 = 102 <;> by_cases a3 : c1 = 43 <;> by_cases a4 : c1 = 45 <;> by_cases a5 : c1 = 62 <;> by_cases a6 : c1 = 58 <;> by_cases a7 : c1 = 124 <;> by_cases a8 : c1 = 126 <;> by_cases a9 : c1 = 125 <;> simp [*])
  by_cases h124 : c0 = 124
  · subst h124; simp [sgTab, sgGC, pfC]
    try (by_cases a1 : c1 = 101 <;> by_cases a2 : c1 = 102 <;> by_cases a3 : c1 = 43 <;> by_cases a4 : c1 = 45 <;> by_cases a5 : c1 = 62 <;> by_cases a6 : c1 = 58 <;> by_cases a7 : c1 = 124 <;> by_cases a8 : c1 = 126 <;> by_cases a9 : c1 = 125 <;> simp [*])
  by_cases h126 : c0 = 126
  · subst h126; simp [sgTab, sgGC, pfC]
    try (by_cases a1 : c1 = 101 <;> by_cases a2 : c1 = 102 <;> by_cases a3 : c1 = 43 <;> by_cases a4 : c1 = 45 <;> by_cases a5 : c1 = 62 <;> by_cases a6 : c1 = 58 <;> by_cases a7 : c1 = 124 <;> by_cases a8 : c1 = 126 <;> by_cases a9 : c1 = 125 <;> simp [*])
  by_cases h125 : c0 = 125
  · subst h125; simp [sgTab, sgGC, pfC]
    try (by_cases a1 : c1 = 101 <;> by_cases a2 : c1 = 102 <;> by_cases a3 : c1 = 43 <;> by_cases a4 : c1 = 45 <;> by_cases a5 : c1 = 62 <;> by_cases a6 : c1 = 58 <;> by_cases a7 : c1 = 124 <;> by_cases a8 : c1 = 126 <;> by_cases a9 : c1 = 125 <;> simp [*])
  simp [sgTab, sgGC, pfC, *]
theorem sgAt_C (s : ByteArray) (b : Nat) : sgAt s b = sgC (chr s b) (chr s (b + 1)) := by
  rw [← sgGC_C]
  exact sgGo_C s b sgTab (by decide)
end Go.Proofs.YtnpifgcgjgddoaaGreatDoor
