/- For every list of spans the law CharsetSpans returns true and leaves its argument as it was: the program's FromSpans answers as the document's definition does and leaves the list that it is handed, and what lies behind it, as they were; two of the chapter's examples answer as the chapter says. No condition but the form's own reach. -/
import Derived.Test.YtlcmlipldkpliaaOpen
import Derived.Test.YtlcmlipldkpliaaSps
import Derived.Deep.SlicePairs
import Derived.SizedLaws
namespace Go.Proofs.Ytlcmlipldkpliaa
open Go.ChangeShapes Go.WideShapes Go.ChangeAt Go.RowKit

theorem Try.cells52 : Try.prog.cellsOf 52 = 2 := by kernel_rfl
theorem Try.cells3 : Try.prog.cellsOf 3 = 1 := by kernel_rfl
theorem Try.bytes52 : Try.prog.bytesOf 52 = 16 := by kernel_rfl

/-- A list of spans that comes in. -/
theorem open_spans {H : Type} {enc : TypeId × Value → H} {W : World} {b0 : Nat} {r : Reach} {held : Bool} {v : Value} {d : DataW H} {p : List MemPlace} (hv : Value.okWide Try.prog W r b0 48 v) (h : DataW.Trod enc Try.prog W 0 (fun _ => true) held 48 v d p) :
    (∃ l, Reads W v l ∧ (l = [] ∨ ∃ es sp, d = .slice es sp ∧ es.length = l.length)) ∨ ∃ a cap, v = .slice (some a) 0 cap := by
  obtain ⟨fuel, hf⟩ := h
  obtain ⟨a0, len0, cap0, rfl⟩ := okWide_slice Try.underlying48 hv
  rcases Go.Deep.open_slice_pairs Try.underlying48 Try.underlying52 Try.cells52 rfl rfl Try.cells3 Try.cells3 hf with ⟨hc, hx⟩ | ⟨a, len, cap, m, k, V0, V1, D0, D1, P0, P1, hc, _, hl, hm, hmm, hx, hall⟩
  · have hc : [Value.slice a0 len0 cap0] = [.slice none 0 0] := hc
    rw [List.cons.injEq] at hc
    rw [hc.1]
    exact .inl ⟨[], .inl ⟨rfl, rfl⟩, .inl rfl⟩
  · have hc : [Value.slice a0 len0 cap0] = [.slice (some a) len cap] := hc
    rw [List.cons.injEq] at hc
    rw [hc.1]
    simp only [if_true] at hmm
    subst hmm
    by_cases h0 : len = 0
    · subst h0
      exact .inr ⟨a, m, rfl⟩
    · left
      obtain ⟨g, off, spot⟩ := a
      have hspot : spot = none := by simpa [Addr.add] using World.cell?_spot (hall 0 (by omega)).1
      subst hspot
      refine ⟨(List.range len).map fun i => (intOf (V0 i), intOf (V1 i)), .inr ⟨g, off, m, by simp, ?_, ?_⟩, .inr ⟨_, _, congrArg Prod.fst hx, by simp⟩⟩
      · exact World.block_lt_of_cell? W _ (hall 0 (by omega)).1
      · intro i hi
        have hi : i < len := by simpa using hi
        obtain ⟨h1, h2, h3, h4⟩ := hall i (by omega)
        obtain ⟨N0, e0, _, _⟩ := DataW.trod_int Try.underlying3 h3
        obtain ⟨N1, e1, _, _⟩ := DataW.trod_int Try.underlying3 h4
        simp only [List.cons.injEq, and_true] at e0 e1
        rw [Addr.add_lit] at h1 h2
        rw [List.getElem_map, List.getElem_range]
        refine ⟨h1.trans ?_, ?_⟩
        · rw [e0]; rfl
        · rw [← Nat.add_assoc] at h2; refine h2.trans ?_; rw [e1]; rfl

set_option maxRecDepth 100000 in
theorem charsetSpans_lifted (os : Os) (started : os.Started) (H : Type) (enc : TypeId × Value → H) :
    ReturnsInHanded {} Try.checked os 7 .any (Rows.charsetSpansSpec.pre6 enc Try.prog Try.f7 Rows.charsetSpansRow.domain false) (Rows.charsetSpansSpec.post enc Try.prog Try.f7 false true false false) := by
  refine returnsInHanded_of_change_sized (C := Try.checked) own started (by kernel_rfl) Try.func7
    (ChangeSpec.witness6 (enc := enc) (C := Try.checked) false ⟨#[], #[.slice none 0 0], []⟩ 8 (by kernel_rfl) (by kernel_rfl) (by kernel_rfl) (by kernel_rfl)) ?_
  intro W base args ds gs before hval0 hW hcnd hsz _
  have hval : ∀ (j : Nat) t v, Try.f7.params[j]? = some t → args[j]? = some v → Value.okWide Try.prog W .any base t v := hval0
  have hW' := hW
  obtain ⟨p, q, hA0, hV, rfl, hfz, hnd⟩ := hW
  have hA : DataW.TrodAll enc Try.prog W 0 (fun _ => true) true Try.f7.params.toList args.toList ds p := hA0
  rw [Try.params7] at hA hval
  have hsz : (DataW.weightsEach Try.prog (#[48].toList ++ Rows.charsetSpansSpec.plain.varTypes Try.prog) (ds ++ gs)).all (· ≤ reachBytes) = true := hsz
  obtain ⟨v0, d0, rfl, rfl, h0⟩ := trodAll_one hA
  obtain ⟨rfl, rfl⟩ := trodVars_none hV
  have lt0 : ∀ x ∈ p, x.block < W.heap.size := by obtain ⟨m, hm⟩ := h0; exact DataW.trod_lt m _ _ _ hm
  clear hA0 hval0
  have key : Calls Try.prog 7 #[v0] W fun e w' => e = .returned (.bool true) ∧ Below W.heap.size W w' := by
    rcases open_spans (hval 0 48 v0 rfl rfl) h0 with ⟨l, hl, hd⟩ | ⟨a, cap, rfl⟩
    · refine spansL_any v0 l W hl ?_
      rcases hd with rfl | ⟨es, sp, rfl, he⟩
      · simp
      · have h := sized_slice hsz (j := 0) rfl rfl Try.underlying48
        rw [Try.bytes52] at h
        have hb := reachBytes_lt
        have hr : reachBytes = 140737488351232 := by decide
        rw [← he]
        have : es.length * 16 ≤ (es.length + sp.length) * 16 := by omega
        omega
    · exact spans_zero a cap W
  refine key.mono fun e W' ⟨he, bel⟩ => ?_
  subst he
  exact ⟨_, rfl, _, _, _, [], _, [], hW', trodAll_mk1 (shut_bool Try.underlying4 _), (trodAll_cons_mk (Below.trod laidOut (by kernel_rfl) (of_decide_eq_true (by kernel_rfl)) h0 bel lt0) trodAll_mk0), rfl, bel.frame _, fun h => by cases h⟩

theorem charsetSpans_holds : Rows.CharsetSpansSaid :=
  OpenClaim.holds_of_wide 7 Try.f7 rfl rfl rfl rfl rfl rfl rfl ⟨rfl, rfl, rfl, rfl, rfl⟩ rfl rfl rfl rfl rfl (by kernel_rfl) Try.func7 (by kernel_rfl)
    (of_decide_eq_true (by kernel_rfl)) (by unfold Func.isWrapper; first | (rw [if_pos (by decide +kernel)]; kernel_rfl) | (rw [if_neg (by decide +kernel)]; exact ⟨rfl, rfl⟩))
    (fun os started H enc _ => charsetSpans_lifted os started H enc)
#print axioms charsetSpans_holds
end Go.Proofs.Ytlcmlipldkpliaa
