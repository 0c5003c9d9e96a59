/- DERIVED. Walks: Bytes, Count by the document. -/
import Derived.Test.YtlcmlipldkpliabBys
import Derived.Test.YtlcmlipldkpliabMixP
import Derived.Maps.AppendAt
namespace Go.Proofs.Ytlcmlipldkpliab
open Go.RowKit

theorem Try.info5 : (Try.prog.info? 5).map (fun i => (i.zero, i.size, i.bytes)) = some (some (.int .u8 0), 1, 1) := by kernel_rfl

/-- A row that the call owns, behind a call that turned nothing of what was there. -/
theorem own_below {w w' : World} {base e size : Nat} {v : Value} {n : Nat} {xs : List Value} (h : w.ownsRow base e size v n xs) (hb : Below w.heap.size w w') (_hB : base ≤ w.heap.size) : w'.ownsRow base e size v n xs := by
  refine h.kept (row := none) ⟨hb.os, hb.tape, hb.output, hb.size, fun k hk _ => hb.block k hk⟩ ?_
  cases h2 : v.ownBlock
  · exact .inl rfl
  · exact .inr (by simp)

theorem holds_grown {w w' : World} {b : Nat} {x : BitVec 256} {row : Option Nat} (h : Holds w b x) (hg : w.grownBy w' row) (hne : row = some b → False) : Holds w' b x := by
  have e := hg.block b h.lt (fun e => hne e.symm)
  exact ⟨Nat.lt_of_lt_of_le h.lt hg.size, (World.cell?_of_block (a := ⟨b, 0, none⟩) e).trans h.c0, (World.cell?_of_block (a := ⟨b, 1, none⟩) e).trans h.c1, (World.cell?_of_block (a := ⟨b, 2, none⟩) e).trans h.c2, (World.cell?_of_block (a := ⟨b, 3, none⟩) e).trans h.c3,
    (World.frozen?_of_block (a := ⟨b, 0, none⟩) e).trans h.f0, (World.frozen?_of_block (a := ⟨b, 1, none⟩) e).trans h.f1, (World.frozen?_of_block (a := ⟨b, 2, none⟩) e).trans h.f2, (World.frozen?_of_block (a := ⟨b, 3, none⟩) e).trans h.f3⟩

/-- The text of a row of bytes that the call owns. -/
theorem text_own {w : World} {base : Nat} {v : Value} {l : List Int} (h : w.ownsRow base 5 1 v l.length (l.map (Value.int .u8))) :
    (convert 49 9 v).run Try.prog w = .ok (.string (asText l)) w := by
  have hc := h
  obtain ⟨hlen, h2⟩ := h
  rcases h2 with ⟨rfl, hn⟩ | ⟨g, cap, cur, rfl, _⟩
  · obtain rfl : l = [] := List.eq_nil_of_length_eq_zero hn
    rw [run_convert_bytes_string w 49 9 5 _ _ _ Try.underlying49 Try.underlying5 Try.underlying9]
    rfl
  · rw [run_convert_bytes_string w 49 9 5 _ _ _ Try.underlying49 Try.underlying5 Try.underlying9]
    refine run_bytesToString w ⟨g, 0, none⟩ l.length cap l ?_
    have := run_loadCells_list (P := Try.prog) (w := w) ⟨g, 0, none⟩ (l.map (Value.int .u8)) (hc.cells rfl)
    rwa [List.length_map] at this
end Go.Proofs.Ytlcmlipldkpliab
