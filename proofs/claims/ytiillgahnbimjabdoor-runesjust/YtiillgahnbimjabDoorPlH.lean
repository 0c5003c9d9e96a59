/- Plain: there and back: points as a text, a text as points; cleaned texts. -/
import Derived.Test.YtiillgahnbimjabDoorPlG
namespace Go.Proofs.YtiillgahnbimjabDoor
open Go.RowKit

theorem By.left {a b : List Int} (h : By (a ++ b)) : By a := fun n hn => h n (List.mem_append_left _ hn)
theorem chr_append (a b : ByteArray) (k : Nat) : chr (a ++ b) k = if k < a.size then chr a k else chr b (k - a.size) := by
  have hs : (a ++ b).size = a.size + b.size := ByteArray.size_append
  by_cases h : k < a.size
  · rw [if_pos h, chr_in h, chr_in (by omega), ByteArray.getElem_append_left h]
  · rw [if_neg h]
    by_cases h2 : k - a.size < b.size
    · rw [chr_in h2, chr_in (by omega), ByteArray.getElem_append_right (by omega)]
    · rw [chr_out h2, chr_out (by omega)]
/-- A code point's bytes within a text. -/
theorem st_mid (a b : ByteArray) {r : Int} (h : cp r) : St ((a ++ Utf8.encode r) ++ b) a.size (enL r) := fun k x hk => by
  have hl := enL_len h
  have hlt : k < (enL r).length := by
    by_cases q : k < (enL r).length
    · exact q
    · rw [List.getElem?_eq_none (by omega)] at hk; cases hk
  have he : (Utf8.encode r).size = (enL r).length := by rw [encode_eq h, asText_size]
  have hs : (a ++ Utf8.encode r).size = a.size + (Utf8.encode r).size := ByteArray.size_append
  rw [chr_append, if_pos (by omega), chr_append, if_neg (by omega), show a.size + k - a.size = k from by omega, encode_eq h, chr_asText (enL_by r), hk]
  rfl
theorem dcd_mid (a b : ByteArray) {r : Int} (h : cp r) : dcd ((a ++ Utf8.encode r) ++ b) a.size = some (r, szI r) := dcd_of h (st_mid a b h)
theorem st_text {pre post : List Int} {r : Int} (h : By (pre ++ enL r ++ post)) : St (asText (pre ++ enL r ++ post)) pre.length (enL r) := fun k x hk => by
  have hlt : k < (enL r).length := by
    by_cases q : k < (enL r).length
    · exact q
    · rw [List.getElem?_eq_none (by omega)] at hk; cases hk
  rw [chr_asText h, List.getElem?_append_left (by rw [List.length_append]; omega), List.getElem?_append_right (by omega), show pre.length + k - pre.length = k from by omega, hk]
  rfl
def allCp (l : List Int) : Prop := ∀ r ∈ l, cp r
theorem okL_iff {l : List Int} : okL l = true ↔ allCp l := by
  unfold okL allCp
  rw [List.all_eq_true]
  exact ⟨fun h r hr => cpB_iff.1 (h r hr), fun h r hr => cpB_iff.2 (h r hr)⟩
theorem dcd_text {pre post : List Int} {r : Int} (hr : cp r) (h : By (pre ++ (enL r ++ post))) : dcd (asText (pre ++ (enL r ++ post))) pre.length = some (r, szI r) := by
  rw [← List.append_assoc] at *
  exact dcd_of hr (st_text h)
theorem text_lt {pre post : List Int} {r : Int} : pre.length < (asText (pre ++ (enL r ++ post))).size := by
  rw [asText_size, List.length_append, List.length_append]
  have := enL_le r
  omega
/-- Points of a text that was made of points. -/
theorem pts_flat : ∀ (l pre acc : List Int) (f : Nat), allCp l → By pre → (l.flatMap enL).length ≤ f → ptF (asText (pre ++ l.flatMap enL)) f pre.length acc = .inl (acc ++ l)
  | [], pre, acc, f, _, _, _ => by
    rw [List.flatMap_nil, List.append_nil, List.append_nil]
    exact ptF_end (by rw [asText_size]; omega)
  | r :: l, pre, acc, f, h, hb, hf => by
    have hr := h r List.mem_cons_self
    rw [List.flatMap_cons] at *
    rw [List.length_append] at hf
    have hle := enL_le r
    obtain ⟨g, rfl⟩ : ∃ g, f = g + 1 := ⟨f - 1, by omega⟩
    have hB : By (pre ++ (enL r ++ l.flatMap enL)) := hb.append ((enL_by r).append (flat_enL_by l))
    rw [ptF_step text_lt (dcd_text hr hB)]
    have ih := pts_flat l (pre ++ enL r) (acc ++ [r]) g (fun x hx => h x (List.mem_cons_of_mem _ hx)) (hb.append (enL_by r)) (by omega)
    rw [List.length_append, enL_len hr, List.append_assoc, List.append_assoc] at ih
    exact ih
theorem pts_text {l : List Int} (h : allCp l) : pts (asText (l.flatMap enL)) = .inl l := by
  have := pts_flat l [] [] (asText (l.flatMap enL)).size h By.nil (by rw [asText_size]; omega)
  simpa [pts] using this
/-- Valid and points. -/
theorem vl_pt (s : ByteArray) : ∀ (f p : Nat) (l : List Int), vlF s f p = (match ptF s f p l with | .inl _ => true | .inr _ => false)
  | 0, _, _ => rfl
  | f + 1, p, l => by
    by_cases h : p < s.size
    · cases hd : dcd s p with
      | none => rw [vlF_bad h hd, ptF_bad h hd]
      | some x =>
        obtain ⟨r, n⟩ := x
        rw [vlF_step h hd, ptF_step h hd]
        exact vl_pt s f (p + n) (l ++ [r])
    · rw [vlF_end h, ptF_end h]
theorem vld_inl {s : ByteArray} {l : List Int} (h : pts s = .inl l) : vld s = true := by
  unfold vld; rw [vl_pt s s.size 0 []]; unfold pts at h; rw [h]
theorem vld_inr {s : ByteArray} {p : Nat} (h : pts s = .inr p) : vld s = false := by
  unfold vld; rw [vl_pt s s.size 0 []]; unfold pts at h; rw [h]
theorem vld_text {l : List Int} (h : allCp l) : vld (asText (l.flatMap enL)) = true := vld_inl (pts_text h)
theorem vld_enc {r : Int} (h : cp r) : vld (Utf8.encode r) = true := by
  have := vld_text (l := [r]) (fun x hx => by rw [List.mem_singleton] at hx; rw [hx]; exact h)
  rw [List.flatMap_cons, List.flatMap_nil, List.append_nil, ← encode_eq h] at this
  exact this
/-- What is cleaned is a text of points. -/
theorem clF_flat (s : ByteArray) : ∀ (f p : Nat) (acc : List Int), ∃ q, allCp q ∧ clF s f p acc = acc ++ q.flatMap enL
  | 0, _, acc => ⟨[], (fun r hr => by cases hr), by simp [clF]⟩
  | f + 1, p, acc => by
    by_cases h : p < s.size
    · cases hd : dcd s p with
      | none =>
        obtain ⟨q, h1, h2⟩ := clF_flat s f (p + 1) (acc ++ [239, 191, 189])
        refine ⟨65533 :: q, fun r hr => ?_, ?_⟩
        · rcases List.mem_cons.1 hr with rfl | hr
          · exact cp_fffd
          · exact h1 r hr
        · rw [clF_bad h hd, h2, List.flatMap_cons, enc_fffd, List.append_assoc]
      | some x =>
        obtain ⟨r, n⟩ := x
        obtain ⟨q, h1, h2⟩ := clF_flat s f (p + n) (acc ++ enL r)
        refine ⟨r :: q, fun y hy => ?_, ?_⟩
        · rcases List.mem_cons.1 hy with rfl | hy
          · exact (dcd_some hd).1
          · exact h1 y hy
        · rw [clF_step h hd, h2, List.flatMap_cons, List.append_assoc]
    · exact ⟨[], (fun r hr => by cases hr), by rw [clF_end h]; simp⟩
theorem cln_flat (s : ByteArray) : ∃ q, allCp q ∧ cln s = q.flatMap enL := by
  obtain ⟨q, h1, h2⟩ := clF_flat s s.size 0 []
  exact ⟨q, h1, by unfold cln; rw [h2]; rfl⟩
/-- What is made of points stays when it is cleaned. -/
theorem cl_flat : ∀ (l pre acc : List Int) (f : Nat), allCp l → By pre → (l.flatMap enL).length ≤ f → clF (asText (pre ++ l.flatMap enL)) f pre.length acc = acc ++ l.flatMap enL
  | [], pre, acc, f, _, _, _ => by
    rw [List.flatMap_nil, List.append_nil, List.append_nil]
    exact clF_end (by rw [asText_size]; omega)
  | r :: l, pre, acc, f, h, hb, hf => by
    have hr := h r List.mem_cons_self
    rw [List.flatMap_cons] at *
    rw [List.length_append] at hf
    have hle := enL_le r
    obtain ⟨g, rfl⟩ : ∃ g, f = g + 1 := ⟨f - 1, by omega⟩
    have hB : By (pre ++ (enL r ++ l.flatMap enL)) := hb.append ((enL_by r).append (flat_enL_by l))
    rw [clF_step text_lt (dcd_text hr hB)]
    have ih := cl_flat l (pre ++ enL r) (acc ++ enL r) g (fun x hx => h x (List.mem_cons_of_mem _ hx)) (hb.append (enL_by r)) (by omega)
    rw [List.length_append, enL_len hr, List.append_assoc, List.append_assoc] at ih
    exact ih
theorem cln_text {l : List Int} (h : allCp l) : cln (asText (l.flatMap enL)) = l.flatMap enL := by
  have := cl_flat l [] [] (asText (l.flatMap enL)).size h By.nil (by rw [asText_size]; omega)
  simpa [cln] using this
theorem cln_twice (s : ByteArray) : cln (asText (cln s)) = cln s := by
  obtain ⟨q, h1, h2⟩ := cln_flat s
  rw [h2, cln_text h1]
theorem cln_vld (s : ByteArray) : vld (asText (cln s)) = true := by
  obtain ⟨q, h1, h2⟩ := cln_flat s
  rw [h2]; exact vld_text h1
/-- The bytes behind a place. -/
theorem byl_drop {s : ByteArray} {p n : Nat} {r : Int} (h : dcd s p = some (r, n)) : (byl s).drop p = enL r ++ (byl s).drop (p + n) := by
  have hb := dcd_bd h
  obtain ⟨h1, h2, h3⟩ := dcd_some h
  have hl := enL_len h1
  have e : ((byl s).drop p).take n = enL r := by
    apply List.ext_getElem?
    intro k
    by_cases hk : k < n
    · have hp : p + k < s.size := by omega
      rw [List.getElem?_take, if_pos hk, List.getElem?_drop, byl_get s (p + k) hp, List.getElem?_eq_getElem (by omega)]
      have := h3 k _ (List.getElem?_eq_getElem (by omega))
      rw [chr_in hp] at this
      rw [this]
    · rw [List.getElem?_take, if_neg hk, List.getElem?_eq_none (by omega)]
  rw [← e, ← List.drop_drop, List.take_append_drop]
theorem pt_byl (s : ByteArray) : ∀ (f p : Nat) (l m : List Int), s.size ≤ f + p → ptF s f p l = .inl m → ∃ q, m = l ++ q ∧ allCp q ∧ q.flatMap enL = (byl s).drop p ∧ ∀ acc, clF s f p acc = acc ++ (byl s).drop p
  | 0, p, l, m, hf, h => by
    cases h
    have e : (byl s).drop p = [] := List.drop_eq_nil_of_le (by rw [byl_len]; omega)
    exact ⟨[], by simp, (fun r hr => by cases hr), by rw [e]; rfl, fun acc => by rw [e]; simp [clF]⟩
  | f + 1, p, l, m, hf, h => by
    by_cases hp : p < s.size
    · cases hd : dcd s p with
      | none => rw [ptF_bad hp hd] at h; cases h
      | some x =>
        obtain ⟨r, n⟩ := x
        have hb := dcd_bd hd
        rw [ptF_step hp hd] at h
        obtain ⟨q, h1, h2, h3, h4⟩ := pt_byl s f (p + n) (l ++ [r]) m (by omega) h
        refine ⟨r :: q, by rw [h1, List.append_assoc]; rfl, fun y hy => ?_, by rw [List.flatMap_cons, h3, byl_drop hd], fun acc => by rw [clF_step hp hd, h4, byl_drop hd, List.append_assoc]⟩
        rcases List.mem_cons.1 hy with rfl | hy
        · exact hb.1
        · exact h2 y hy
    · rw [ptF_end hp] at h
      cases h
      have e : (byl s).drop p = [] := List.drop_eq_nil_of_le (by rw [byl_len]; omega)
      exact ⟨[], by simp, (fun r hr => by cases hr), by rw [e]; rfl, fun acc => by rw [clF_end hp, e]; simp⟩
theorem pts_back {s : ByteArray} {l : List Int} (h : pts s = .inl l) : allCp l ∧ asText (l.flatMap enL) = s ∧ asText (cln s) = s := by
  obtain ⟨q, h1, h2, h3, h4⟩ := pt_byl s s.size 0 [] l (by omega) h
  rw [List.nil_append] at h1
  subst h1
  rw [List.drop_zero] at h3
  refine ⟨h2, by rw [h3, asText_byl], ?_⟩
  unfold cln
  rw [h4, List.nil_append, List.drop_zero, asText_byl]
/-- A text is valid just where cleaning leaves it. -/
theorem cln_same (s : ByteArray) : ((asText (cln s)).toList == s.toList) = vld s := by
  cases h : pts s with
  | inl l => rw [vld_inl h, (pts_back h).2.2]; simp
  | inr p =>
    rw [vld_inr h, beq_eq_false_iff_ne, ByteArray.toList_eq, ByteArray.toList_eq]
    intro e
    have e2 := ba_ext e
    have h1 := cln_vld s
    rw [e2, vld_inr h] at h1
    cases h1
theorem cln_len (s : ByteArray) : (cln s).length ≤ 3 * s.size := by
  have key : ∀ (f p : Nat) (acc : List Int), p ≤ s.size → (clF s f p acc).length ≤ acc.length + 3 * (s.size - p) := by
    intro f
    induction f with
    | zero => intro p acc _; show acc.length ≤ _; omega
    | succ f ih =>
      intro p acc hp0
      by_cases hp : p < s.size
      · cases hd : dcd s p with
        | none =>
          rw [clF_bad hp hd]
          have := ih (p + 1) (acc ++ [239, 191, 189]) (by omega)
          rw [List.length_append] at this
          have e : ([239, 191, 189] : List Int).length = 3 := rfl
          omega
        | some x =>
          obtain ⟨r, n⟩ := x
          have hb := dcd_bd hd
          obtain ⟨h1, h2, _⟩ := dcd_some hd
          rw [clF_step hp hd]
          have := ih (p + n) (acc ++ enL r) (by omega)
          rw [List.length_append, enL_len h1] at this
          omega
      · rw [clF_end hp]; omega
  have := key s.size 0 [] (by omega)
  unfold cln
  simpa using this
end Go.Proofs.YtiillgahnbimjabDoor
