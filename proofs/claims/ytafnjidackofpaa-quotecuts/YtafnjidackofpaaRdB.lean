/- DERIVED. Walks: readBehind, by the program. -/
import Derived.Test.YtafnjidackofpaaRdA
import Derived.Maps.AppendAt
import Derived.ProofKit
namespace Go.Proofs.Ytafnjidackofpaa
open Go.RowKit

theorem Try.info5 : (Try.prog.info? 5).map (fun i => (i.zero, i.size, i.bytes)) = some (some (.int .u8 0), 1, 1) := by kernel_rfl

/-- A row that the call owns, behind a call that turned nothing of what was there. -/
theorem own_below {w w' : World} {base e size : Nat} {v : Value} {n : Nat} {xs : List Value} (h : w.ownsRow base e size v n xs) (hb : Below w.heap.size w w') : w'.ownsRow base e size v n xs := by
  refine h.kept (row := none) ⟨hb.os, hb.tape, hb.output, hb.size, fun k hk _ => hb.block k hk⟩ ?_
  cases h2 : v.ownBlock
  · exact .inl rfl
  · exact .inr (by simp)

/-- The text of a row of bytes that the call owns. -/
theorem text_own {w : World} {base : Nat} {v : Value} {l : List Int} (h : w.ownsRow base 5 1 v l.length (l.map (Value.int .u8))) :
    (convert 44 9 v).run Try.prog w = .ok (.string (asText l)) w := by
  have hc := h
  obtain ⟨hlen, h2⟩ := h
  rcases h2 with ⟨rfl, hn⟩ | ⟨g, cap, cur, rfl, _⟩
  · obtain rfl : l = [] := List.eq_nil_of_length_eq_zero hn
    rw [run_convert_bytes_string w 44 9 5 _ _ _ Try.underlying44 Try.underlying5 Try.underlying9]
    rfl
  · rw [run_convert_bytes_string w 44 9 5 _ _ _ Try.underlying44 Try.underlying5 Try.underlying9]
    refine run_bytesToString w ⟨g, 0, none⟩ l.length cap l ?_
    have := run_loadCells_list (P := Try.prog) (w := w) ⟨g, 0, none⟩ (l.map (Value.int .u8)) (hc.cells rfl)
    rwa [List.length_map] at this

/-- A box with a fault. -/
structure FHolds (w : World) (b : Nat) (p q : Int) : Prop where
  lt : b < w.heap.size
  c0 : w.cell? ⟨b, 0, none⟩ = some (.int .i64 p)
  c1 : w.cell? ⟨b, 1, none⟩ = some (.int .i64 q)
  f0 : w.frozen? ⟨b, 0, none⟩ = false
  f1 : w.frozen? ⟨b, 1, none⟩ = false
theorem FHolds.below {B : Nat} {w w' : World} {b : Nat} {p q : Int} (h : FHolds w b p q) (hb : Below B w w') (hB : b < B) : FHolds w' b p q :=
  ⟨Nat.lt_of_lt_of_le h.lt hb.size, (hb.cell (p := ⟨b, 0, none⟩) hB).trans h.c0, (hb.cell (p := ⟨b, 1, none⟩) hB).trans h.c1, (hb.frozen (p := ⟨b, 0, none⟩) hB).trans h.f0, (hb.frozen (p := ⟨b, 1, none⟩) hB).trans h.f1⟩
theorem FHolds.new (w : World) (p q : Int) : FHolds (w.alloc (.cells #[.int .i64 p, .int .i64 q] 28)) w.heap.size p q := by
  constructor <;> simp [go_sem]
theorem FHolds.grown {w w' : World} {b : Nat} {p q : Int} {row : Option Nat} (h : FHolds w b p q) (hg : w.grownBy w' row) (hne : row = some b → False) : FHolds w' b p q := by
  have e := hg.block b h.lt (fun e => hne e.symm)
  exact ⟨Nat.lt_of_lt_of_le h.lt hg.size, (World.cell?_of_block (a := ⟨b, 0, none⟩) e).trans h.c0, (World.cell?_of_block (a := ⟨b, 1, none⟩) e).trans h.c1, 
    (World.frozen?_of_block (a := ⟨b, 0, none⟩) e).trans h.f0, (World.frozen?_of_block (a := ⟨b, 1, none⟩) e).trans h.f1⟩
theorem FHolds.alloc {w : World} {b : Nat} {p q : Int} (h : FHolds w b p q) (o : Obj) : FHolds (w.alloc o) b p q :=
  h.below (B := w.heap.size) ((Below.refl _ _).alloc (Nat.le_refl _) _) h.lt
theorem FHolds.put {w : World} {b : Nat} {p q : Int} (h : FHolds w b p q) (p' q' : Int) : FHolds ((w.setCell ⟨b, 0, none⟩ (.int .i64 p')).setCell ⟨b, 1, none⟩ (.int .i64 q')) b p' q' := by
  obtain ⟨lt, c0, c1, f0, f1⟩ := h
  constructor <;> simp [go_sem, *]
theorem FHolds.put_other {w : World} {b c : Nat} {p q : Int} (h : FHolds w c p q) (hne : c ≠ b) (u v : Value) : FHolds ((w.setCell ⟨b, 0, none⟩ u).setCell ⟨b, 1, none⟩ v) c p q := by
  obtain ⟨lt, c0, c1, f0, f1⟩ := h
  constructor <;> simp [go_sem, *]
theorem putF_below {B : Nat} {w wr : World} {b : Nat} (hb : Below B w wr) (h : B ≤ b) (u v : Value) : Below B w ((wr.setCell ⟨b, 0, none⟩ u).setCell ⟨b, 1, none⟩ v) :=
  (hb.setCell (p := ⟨b, 0, none⟩) h _).setCell (p := ⟨b, 1, none⟩) h _

theorem cuV_err {l : Rd (List Int × Nat)} {a c : Int} (h : l = .inr (a, c)) : cuV l = .tuple #[.string ⟨#[]⟩, .int .i64 0, .agg #[.int .i64 a, .int .i64 c]] := by rw [h]; rfl

/-- What holds in the loop of a reading. -/
structure AtL (w wr : World) (v : Value) (l : List Int) : Prop where
  f : FHolds wr w.heap.size 0 0
  o : wr.ownsRow (w.heap.size + 1) 5 1 v l.length (l.map (Value.int .u8))
  b : Below w.heap.size w wr

set_option maxRecDepth 100000 in
set_option maxHeartbeats 4000000 in
theorem readBehind_any (s : ByteArray) (i : Nat) (m : Int) (hm : 0 ≤ m) (hi : i ≤ s.size) (hs : s.size ≤ 65536) (w : World) :
    Calls Try.prog 32 #[.string s, .int .i64 i, .int .u8 m] w fun e w' => e = .returned (cuV (rdBody s m (s.size + 1) i [])) ∧ Below w.heap.size w w' := by
  obtain ⟨i0, hinf, hz0, hz1, hz2⟩ := info_parts Try.info5
  generalize hR : rdBody s m (s.size + 1) i [] = R
  have HR := (show Hid _ from hR)
  clear hR
  have HF := (show Hid _ from FHolds.new w 0 0)
  have HB := (show Hid _ from (Below.refl w.heap.size w).alloc (Nat.le_refl _) (.cells #[.int .i64 0, .int .i64 0] 28))
  go_enter Try.func32, Try.ntmps32
  go_wp2_with fail
  go_loopw [1, 9] (fun t v wr => ∃ k : Nat, ∃ f : Nat, ∃ l : List Int, k ≤ s.size ∧ t = .int .i64 k ∧ l.length ≤ k ∧ Hid (s.size + 1 ≤ f + k) ∧ Hid (rdBody s m f k l = R) ∧ Hid (AtL w wr v l)) (fun t _ _ => s.size - (intOf t).toNat)
  case atStart => exact ⟨i, s.size + 1, [], hi, by go_num, by simp, show _ ≤ _ by omega, HR, ⟨HF.out, World.ownsRow_nil _ _ _ _, HB.out⟩⟩
  case round =>
    obtain ⟨k, f, l, hk, rfl, hl, hf, hr, ha⟩ := hrel
    obtain ⟨g, rfl⟩ : ∃ g, f = g + 1 := ⟨f - 1, by have h := hf.out; omega⟩
    clear HR HF HB
    have hlt : w.heap.size < wr.heap.size := ha.out.f.lt
    by_cases hks : k < s.size
    · have hb := chr_bd hks
      have HC := (show Hid _ from chr_in hks)
      by_cases hm1 : chr s k = m
      · have hr' := (show Hid (R = .inl (l, k + 1)) from (hr.out.symm.trans (rdBody_end hm1)))
        have em : ((s[k].toNat : Int) == m) = true := beq_iff_eq.2 (by rw [← HC.out]; exact hm1)
        have ht := text_own ha.out.o
        clear hr hf hm1 hb HC
        obtain ⟨_, c0, c1, f0, f1⟩ := ha.out.f
        go_wp2_with fail
        rw [hr'.out]
        refine bodyPost_ret (v := cuV (.inl (l, k + 1))) (by simp [results, Try.results32, go_sem, cuV, *]) rfl ⟨rfl, ?_⟩
        exact putF_below ha.out.b (Nat.le_refl _) _ _
      · have em : ((s[k].toNat : Int) == m) = false := beq_eq_false_iff_ne.2 (by rw [← HC.out]; exact hm1)
        have HRB : Hid (∀ w, Calls Try.prog 40 #[.string s, .int .i64 k] w fun e w' => e = .returned (byV (rdByte s k)) ∧ w' = w) := fun w => readByte_any s k hks (by omega) w
        cases hq : rdByte s k with
        | inr pq =>
          obtain ⟨a, c⟩ := pq
          obtain ⟨rfl, hc⟩ := rdByte_err hq
          have hr' := (show Hid (R = .inr (k, c)) from (hr.out.symm.trans (rdBody_err hm1 hks hq)))
          have hc0 : (c != 0) = true := bne_iff_ne.2 (by omega)
          rw [hq] at HRB
          dsimp only [byV] at HRB
          clear hr hf hm1 hb HC hq hc
          obtain ⟨_, c0, c1, f0, f1⟩ := ha.out.f
          go_wp2_with fail
          refine (HRB.out _).mono ?_
          rintro e w1 ⟨rfl, rfl⟩
          go_wp2_with fail
          rw [hr'.out]
          refine bodyPost_ret (v := cuV (.inr (k, c))) (by simp [results, Try.results32, go_sem, cuV, *]) rfl ⟨rfl, ?_⟩
          exact putF_below ha.out.b (Nat.le_refl _) _ _
        | inl p =>
          obtain ⟨b, n⟩ := p
          obtain ⟨b0, b1, b2, b3⟩ := rdByte_bd hq
          have hr' := (show Hid (rdBody s m g n (l ++ [b]) = R) from ((rdBody_step hm1 hks hq).symm.trans hr.out))
          have hf' := (show Hid (s.size + 1 ≤ g + n) from (by have h := hf.out; show _ ≤ _; omega))
          rw [hq] at HRB
          dsimp only [byV] at HRB
          clear hr hf hm1 hb HC hq
          have hO1 := ha.out.o
          go_wp2_with fail
          refine (HRB.out _).mono ?_
          rintro e w1 ⟨rfl, rfl⟩
          go_wp2_with (at_builtin; refine wpList_append_own _ rfl _ _ 44 rfl (w.heap.size + 1) 5 i0 (.int .u8 0) 1 1 Try.underlying44 hinf hz0 hz1 hz2 rfl (by decide) _ _ _ rfl (hO1.alloc _) ⟨w1.heap.size, 0, none⟩ 1 1 [.int .u8 b] rfl rfl (cell_one_new _ _ _) ?c2 ?c3 ?c4 ?c5 ?_)
          case c2 => intro u hu; simp at hu; subst hu; rfl
          case c3 => unfold maxLen; omega
          case c4 => omega
          case c5 => simp; omega
          intro v' w2 hown' hgrow _
          have hle := fun j e => (hO1.lt j e).1
          have HA2 := (show Hid (AtL w w2 v' (l ++ [b])) from (by
            refine ⟨(ha.out.f.alloc (.cells #[.int .u8 b] 5)).grown hgrow (fun e => by have := hle _ e; omega), ?_, (ha.out.b.alloc (by omega) (.cells #[.int .u8 b] 5)).grown hgrow (by simp; omega) (fun j e => by have := hle j e; omega)⟩
            rw [List.length_append, List.map_append]
            exact hown'))
          clear hO1 hown' hgrow hle ha
          go_wp2
          go_roundw
          case rel => exact ⟨n, g, l ++ [b], b3, rfl, by simp; omega, hf', hr', HA2⟩
          case measure => simp [intOf]; omega
    · have hr' := (show Hid (R = .inr (k, 22)) from (hr.out.symm.trans ((rdBody_out (by omega) hm).trans (by rw [show k = s.size from by omega]))))
      clear hr hf
      obtain ⟨_, c0, c1, f0, f1⟩ := ha.out.f
      go_wp2_with fail
      rw [hr'.out]
      refine bodyPost_ret (v := cuV (.inr (k, 22))) (by simp [results, Try.results32, go_sem, cuV, *]) rfl ⟨rfl, ?_⟩
      exact putF_below ha.out.b (Nat.le_refl _) _ _
end Go.Proofs.Ytafnjidackofpaa
