/- DERIVED. Walks: chain: lists of nodes one behind the other. -/
import Derived.Test.YtfomodpjdaclgabCoA
namespace Go.Proofs.Ytfomodpjdaclgab
open Go.RowKit

/-- A list as it is handed over. -/
abbrev Ls := Option Addr × Nat × List Nd
def lsV (p : Ls) : Value := .slice p.1 p.2.2.length p.2.1
def flatL (ps : List Ls) : List Nd := ps.flatMap fun p => p.2.2
theorem flatL_succ {ps : List Ls} {i : Nat} {p : Ls} (h : ps[i]? = some p) : flatL (ps.take (i + 1)) = flatL (ps.take i) ++ p.2.2 := by
  unfold flatL
  rw [List.take_add_one, h, List.flatMap_append]
  simp
theorem flatL_len (ps : List Ls) (h : ∀ p ∈ ps, p.2.2.length ≤ 2048) (i : Nat) : (flatL (ps.take i)).length ≤ 2048 * i := by
  induction i with
  | zero => simp [flatL]
  | succ i ih =>
    by_cases q : i < ps.length
    · rw [flatL_succ (List.getElem?_eq_getElem q), List.length_append]
      have := h _ (List.getElem_mem q)
      omega
    · rw [List.take_of_length_le (by omega)]
      rw [List.take_of_length_le (by omega)] at ih
      omega
structure AtC (w wr : World) (v : Value) (l : List Nd) : Prop where
  o : wr.ownsRow w.heap.size 37 7 v l.length (ndc l)
  b : Below w.heap.size w wr

set_option maxRecDepth 100000 in
set_option maxHeartbeats 8000000 in
theorem chain_any (ps : List Ls) (gl ol c : Nat) (h3 : ps.length ≤ 3) (hl : ∀ p ∈ ps, p.2.2.length ≤ 2048) (w : World) (hc : ∀ i p, ps[i]? = some p → w.cell? ⟨gl, ol + i, none⟩ = some (lsV p) ∧ RdN w p.1 p.2.2) :
    Calls Try.prog 24 #[.slice (some ⟨gl, ol, none⟩) ps.length c] w fun e w' => (∃ v, e = .returned v ∧ w'.ownsRow w.heap.size 37 7 v (flatL ps).length (ndc (flatL ps))) ∧ Below w.heap.size w w' := by
  obtain ⟨i0, hinf, hz0, hz1, hz2⟩ := info_parts Try.info43
  have HC := (show Hid (∀ i p, ps[i]? = some p → w.cell? ⟨gl, ol + i, none⟩ = some (lsV p) ∧ RdN w p.1 p.2.2) from hc)
  have HG := (show Hid (∀ i, i < ps.length → ∃ p, ps[i]? = some p ∧ p.2.2.length ≤ 2048) from fun i hi => ⟨ps[i], List.getElem?_eq_getElem hi, hl _ (List.getElem_mem hi)⟩)
  have HL := (show Hid (∀ i, (flatL (ps.take i)).length ≤ 2048 * i) from flatL_len ps hl)
  have HA := (show Hid (AtC w w (.slice none 0 0) (flatL (ps.take 0))) from ⟨World.ownsRow_nil _ _ _ _, Below.refl _ _⟩)
  have HZ := (show Hid (flatL (ps.take ps.length) = flatL ps) from by show flatL (ps.take ps.length) = _; rw [List.take_length])
  have HCo : Hid (∀ n w, Calls Try.prog 29 #[ndG n] w fun e w' => e = .returned (ndG n) ∧ Below w.heap.size w w') := fun n w => copied_any n w
  clear hc hl
  generalize hm : ps.length = m at *
  clear hm
  go_enter Try.func24, Try.ntmps24
  go_wp2_with fail
  go_loopw [3, 10] (fun v t wr => ∃ i : Nat, i ≤ m ∧ t = .int .i64 i ∧ Hid (AtC w wr v (flatL (ps.take i)))) (fun _ t _ => m - (intOf t).toNat)
  case atStart => exact ⟨0, by omega, by go_num, HA⟩
  case round =>
    obtain ⟨i, hi, rfl, HW⟩ := hrel
    clear HA
    by_cases hlt : i < m
    · obtain ⟨p, hp, hpl⟩ := HG.out i hlt
      obtain ⟨hcell, hrd⟩ := HC.out i p hp
      have hgl := World.block_lt_of_cell? w _ hcell
      have e0 := (HW.out.b.cell (p := ⟨gl, ol + i, none⟩) hgl).trans hcell
      have HR := (show Hid (RdN w p.1 p.2.2) from hrd)
      have HS := (show Hid (flatL (ps.take (i + 1)) = flatL (ps.take i) ++ p.2.2) from flatL_succ hp)
      have hbl := HL.out i
      have z0 : (0 : Int) ≤ (i : Int) := by omega
      have z1 : (i : Int) < (m : Int) := by omega
      obtain ⟨A, cL, L⟩ := p
      simp only [lsV] at e0 hpl HR HS
      clear hcell hrd hp HG HC HL hgl
      have HL2 := (show Hid (∀ k, k < L.length → ∃ n, L[k]? = some n ∧ L ≠ [] ∧ L.take (k + 1) = L.take k ++ [n]) from fun k hk => ⟨_, List.getElem?_eq_getElem hk, by rintro rfl; simp at hk, by rw [List.take_add_one, List.getElem?_eq_getElem hk]; rfl⟩)
      have HT0 := (show Hid (AtC w wr u3 (flatL (ps.take i) ++ L.take 0)) from by rw [List.take_zero, List.append_nil]; exact HW.out)
      have HTl := (show Hid (L.take L.length = L) from List.take_length)
      clear HW
      go_wp2_with fail
      go_loopw [3, 16] (fun v t wq => ∃ k : Nat, k ≤ L.length ∧ t = .int .i64 k ∧ Hid (AtC w wq v (flatL (ps.take i) ++ L.take k))) (fun _ t _ => L.length - (intOf t).toNat)
      case atStart => exact ⟨0, by omega, by go_num, HT0⟩
      case round =>
        obtain ⟨k, hk, rfl, HW⟩ := hrel
        clear HT0 e0
        by_cases hlt2 : k < L.length
        · obtain ⟨n, hn, hne, htk⟩ := HL2.out k hlt2
          obtain ⟨g, o, rfl, lg, cl⟩ := HR.out hne
          obtain ⟨c0, c1, c2, c3, c4, c5, c6⟩ := (cl.same (HW.out.b.block g lg)) k n hn
          have y0 : (0 : Int) ≤ (k : Int) := by omega
          have y1 : (k : Int) < (L.length : Int) := by omega
          have HTk := (show Hid (L.take (k + 1) = L.take k ++ [n]) from htk)
          have hlk : (flatL (ps.take i) ++ L.take k).length ≤ 8192 := by rw [List.length_append, List.length_take]; omega
          have HWb := (show Hid (AtC w (wr.alloc (ndO n)) _ (flatL (ps.take i) ++ L.take k)) from ⟨HW.out.o.alloc _, HW.out.b.alloc HW.out.b.size _⟩)
          clear hn hne htk cl HL2 HR HW HS
          go_wp2_with fail
          refine (HCo.out n _).mono ?_
          rintro e w2 ⟨rfl, b2⟩
          have hO : w2.ownsRow w.heap.size 37 7 u3 (flatL (ps.take i) ++ L.take k).length (ndc (flatL (ps.take i) ++ L.take k)) := own_below HWb.out.o b2
          have HB2 := (show Hid (Below w.heap.size w w2) from HWb.out.b.trans (b2.mono HWb.out.b.size))
          have hs2 := HB2.out.size
          clear HCo HWb b2 c0 c1 c2 c3 c4 c5 c6
          have HEq := (show Hid (flatL (ps.take i) ++ L.take (k + 1) = (flatL (ps.take i) ++ L.take k) ++ [n]) from by show _ ++ _ = _; rw [HTk.out, List.append_assoc])
          clear HTk
          generalize flatL (ps.take i) ++ L.take k = l at *
          go_wp2_with (at_builtin; refine wpList_append_lies _ rfl _ _ 23 rfl w.heap.size 37 i0 zA 7 64 Try.underlying23 hinf hz0 hz1 hz2 rfl (by decide) _ _ _ rfl (hO.alloc _) ⟨w2.heap.size, 0, none⟩ 1 1 (ndV n) rfl rfl ?c1 (nd_one _) (by decide) ?c3 ?c4 ?c5 (w2.heap.size + 1) (by simp) ?_)
          case c1 => exact World.news_of_block (cs := #[.int .i64 n.op, .int .i64 n.nn, .string n.tx, .int .u64 n.s0, .int .u64 n.s1, .int .u64 n.s2, .int .u64 n.s3]) (t := 37) (fr := (0, 0)) (heap_alloc_new w2 _)
          case c3 => unfold maxLen; omega
          case c4 => omega
          case c5 => first | omega | (simp; omega)
          intro g3 cap w3 hown hgrow _ _
          have HW3 := (show Hid (AtC w w3 (.slice (some ⟨g3, 0, none⟩) (l.length + 1) cap) (flatL (ps.take i) ++ L.take (k + 1))) from by
            rw [HEq.out]
            refine ⟨?_, (HB2.out.alloc hs2 _).grown hgrow (by simp; omega) (fun j e => (hO.lt j e).1)⟩
            rw [List.length_append, ndc_append, ndc_one]
            exact hown)
          clear hown hgrow hO HB2 HEq
          go_wp2_with fail
          go_roundw
          case rel => exact ⟨k + 1, by omega, by go_num, HW3⟩
          case measure => simp [intOf]; omega
        · obtain rfl : k = L.length := by omega
          rw [HTl.out, ← HS.out] at HW
          clear HL2 HR HS HTl HCo
          go_wp2_with fail
          go_roundw
          case rel => exact ⟨i + 1, by omega, by go_num, HW⟩
          case measure => simp [intOf]; omega
    · obtain rfl : i = m := by omega
      rw [HZ.out] at HW
      clear HG HC HL HCo
      go_wp2_with fail
      go_ret
      exact ⟨⟨_, rfl, HW.out.o⟩, HW.out.b⟩
end Go.Proofs.Ytfomodpjdaclgab
