/- DERIVED. Plain mathematics and walks, laid together (1). -/
import Derived.Laws.AppendOwnNone
import Derived.Deep.RegionLaw
import Derived.Test.YtkihfkcmcdiajaaGreatDoorPk20
namespace Go.Proofs.YtkihfkcmcdiajaaGreatDoor.N
open Go.RowKit
theorem PF_more (E : PE) : ∀ (f m i d : Nat) (x : Nat × List Nd), PF E f m i d = .inl x → PF E (f + 1) m i d = .inl x := by
  intro f
  induction f with
  | zero => intro m i d x q; cases q
  | succ f ih =>
    intro m i d x hr
    rw [PF] at hr ⊢
    by_cases m0 : m = 0
    · rw [if_pos m0] at hr ⊢
      obtain ⟨a1, n1, r1, hr⟩ := bnd_inl hr
      obtain ⟨n2, r2, hn⟩ := ahd_inl hr
      rw [bnd_mk (ih _ _ _ _ r1), ahd_mk (ih _ _ _ _ r2), ← hn]
    rw [if_neg m0] at hr ⊢
    by_cases m1 : m = 1
    · rw [if_pos m1] at hr ⊢
      by_cases k7 : kdA E i = 7
      · rw [if_pos k7] at hr ⊢
        obtain ⟨a1, n1, r1, hr⟩ := bnd_inl hr
        obtain ⟨n2, r2, hn⟩ := ahd_inl hr
        rw [bnd_mk (ih _ _ _ _ r1), ahd_mk (ih _ _ _ _ r2), ← hn]
      · rw [if_neg k7] at hr ⊢
        exact hr
    rw [if_neg m1] at hr ⊢
    by_cases m2 : m = 2
    · rw [if_pos m2] at hr ⊢
      obtain ⟨a1, n1, r1, hr⟩ := bnd_inl hr
      obtain ⟨n2, r2, hn⟩ := ahd_inl hr
      rw [bnd_mk (ih _ _ _ _ r1), ahd_mk (ih _ _ _ _ r2), ← hn]
    rw [if_neg m2] at hr ⊢
    by_cases m3 : m = 3
    · rw [if_pos m3] at hr ⊢
      by_cases kb : bgn E i = true
      · rw [if_pos kb] at hr ⊢
        obtain ⟨a1, n1, r1, hr⟩ := bnd_inl hr
        obtain ⟨n2, r2, hn⟩ := ahd_inl hr
        rw [bnd_mk (ih _ _ _ _ r1), ahd_mk (ih _ _ _ _ r2), ← hn]
      · rw [if_neg kb] at hr ⊢
        exact hr
    rw [if_neg m3] at hr ⊢
    by_cases m4 : m = 4
    · rw [if_pos m4] at hr ⊢
      by_cases kb : bgn E i = true
      · rw [if_pos kb] at hr ⊢
        by_cases k8 : kdA E i = 8 ∨ kdA E i = 9
        · rw [if_pos k8] at hr ⊢
          by_cases hd : 240 ≤ d
          · rw [if_pos hd] at hr; cases hr
          · rw [if_neg hd] at hr ⊢
            obtain ⟨a1, n1, r1, hr⟩ := bnd_inl hr
            rw [bnd_mk (ih _ _ _ _ r1)]
            exact hr
        · rw [if_neg k8] at hr ⊢
          obtain ⟨a1, n1, r1, hr⟩ := bnd_inl hr
          obtain ⟨n2, r2, hn⟩ := ahd_inl hr
          rw [bnd_mk (ih _ _ _ _ r1), ahd_mk (ih _ _ _ _ r2), ← hn]
      · rw [if_neg kb] at hr; cases hr
    rw [if_neg m4] at hr ⊢
    by_cases m5 : m = 5
    · rw [if_pos m5] at hr ⊢
      cases hp : primL E i with
      | inl p => rw [hp] at hr; exact hr
      | inr p =>
        rw [hp] at hr
        dsimp only at hr ⊢
        by_cases hd : 240 ≤ d
        · rw [if_pos hd] at hr; cases hr
        · rw [if_neg hd] at hr ⊢
          obtain ⟨a1, n1, r1, hr⟩ := bnd_inl hr
          rw [bnd_mk (ih _ _ _ _ r1)]
          exact hr
    rw [if_neg m5] at hr ⊢
    cases hs : sufN E i with
    | inl p =>
      rw [hs] at hr
      obtain ⟨n2, r2, hn⟩ := ahd_inl hr
      dsimp only
      rw [ahd_mk (ih _ _ _ _ r2), ← hn]
    | inr o => rw [hs] at hr; cases o <;> exact hr
/-- Two side by side, with a slash between or nothing. -/
theorem rows_ok {A B E' : PE} {g : Nat} (hA : Brk A E' 0) (hB : Brk B E' (A.l.length + 2 + g)) (hg : (g = 0 ∧ kdA E' (A.l.length + 2) = 16) ∨ (g = 1 ∧ kdA E' (A.l.length + 2) = 7)) (hl : E'.l.length = A.l.length + 2 + g + B.l.length + 2) {f : Nat} {na nb : List Nd} (ha : PF A f 0 0 1 = .inl (A.l.length, na)) (hb : PF B f 0 0 1 = .inl (B.l.length, nb)) : PF E' (f + 5) 0 0 0 = .inl (E'.l.length, na ++ nb ++ [nd0 (if g = 0 then 7 else 8)]) := by
  have he : kdA E' (A.l.length + 2 + g + B.l.length + 2) = 0 := by unfold kdA; rw [List.getElem?_eq_none (by omega)]
  rw [hl]
  have k1 : ∀ F : Nat, PF E' (F + 1) 1 (A.l.length + 2 + g + B.l.length + 2) 0 = .inl (A.l.length + 2 + g + B.l.length + 2, []) := fun F => by
    rw [PF, if_neg (by decide), if_pos rfl, if_neg (by rw [he]; decide)]
  have k3 : ∀ F : Nat, PF E' (F + 1) 3 (A.l.length + 2 + g + B.l.length + 2) 0 = .inl (A.l.length + 2 + g + B.l.length + 2, []) := fun F => by
    rw [PF, if_neg (by decide), if_neg (by decide), if_neg (by decide), if_pos rfl, if_neg (by unfold bgn bgK; rw [he]; simp)]
  have pb := hB.pre (d := 0) (by omega) hb (suf_none he (.inl rfl))
  rcases hg with ⟨rfl, hk⟩ | ⟨rfl, hk⟩
  · have pa := hA.pre (d := 0) (by omega) ha (by rw [Nat.zero_add]; exact suf_none hk (.inr (.inr rfl)))
    rw [Nat.zero_add] at pa
    have b1 : bgn E' (A.l.length + 2) = true := by unfold bgn; rw [hk]; rfl
    have h3 : PF E' (f + 3) 3 (A.l.length + 2) 0 = .inl (A.l.length + 2 + 0 + B.l.length + 2, nb ++ [nd0 7]) := by
      rw [PF, if_neg (by decide), if_neg (by decide), if_neg (by decide), if_pos rfl, if_pos b1, bnd_mk pb, ahd_mk (k3 (f + 1)), List.append_nil]
    have pa' : PF E' (f + 3) 4 0 0 = .inl (A.l.length + 2, na) := by
      have h1 : PF A (f + 1) 0 0 1 = .inl (A.l.length, na) := by
        have := PF_more A f 0 0 1 _ ha
        exact this
      have h2 := hA.pre (f := f + 1) (d := 0) (by omega) h1 (by rw [Nat.zero_add]; exact suf_none hk (.inr (.inr rfl)))
      rw [Nat.zero_add] at h2
      exact h2
    have h2 : PF E' (f + 4) 2 0 0 = .inl (A.l.length + 2 + 0 + B.l.length + 2, na ++ (nb ++ [nd0 7])) := by
      rw [PF, if_neg (by decide), if_neg (by decide), if_pos rfl, bnd_mk pa', ahd_mk h3]
    rw [PF, if_pos rfl, bnd_mk h2, ahd_mk (k1 (f + 3)), List.append_nil, if_pos rfl, List.append_assoc]
  · have pa' : PF E' (f + 3) 4 0 0 = .inl (A.l.length + 2, na) := by
      have h2 := hA.pre (f := f + 1) (d := 0) (by omega) (PF_more A f 0 0 1 _ ha) (by rw [Nat.zero_add]; exact suf_none hk (.inr (.inl rfl)))
      rw [Nat.zero_add] at h2
      exact h2
    have h3 : PF E' (f + 3) 3 (A.l.length + 2) 0 = .inl (A.l.length + 2, []) := by
      rw [PF, if_neg (by decide), if_neg (by decide), if_neg (by decide), if_pos rfl, if_neg (by unfold bgn bgK; rw [hk]; simp)]
    have h2 : PF E' (f + 4) 2 0 0 = .inl (A.l.length + 2, na) := by
      rw [PF, if_neg (by decide), if_neg (by decide), if_pos rfl, bnd_mk pa', ahd_mk h3, List.append_nil]
    have h2b : PF E' (f + 3) 2 (A.l.length + 2 + 1) 0 = .inl (A.l.length + 2 + 1 + B.l.length + 2, nb) := by
      rw [PF, if_neg (by decide), if_neg (by decide), if_pos rfl, bnd_mk pb, ahd_mk (k3 (f + 1)), List.append_nil]
    have h1 : PF E' (f + 4) 1 (A.l.length + 2) 0 = .inl (A.l.length + 2 + 1 + B.l.length + 2, nb ++ [nd0 8]) := by
      rw [PF, if_neg (by decide), if_pos rfl, if_pos hk, bnd_mk h2b, ahd_mk (k1 (f + 2)), List.append_nil]
    rw [PF, if_pos rfl, bnd_mk h2, ahd_mk h1, if_neg (by decide), List.append_assoc]
end Go.Proofs.YtkihfkcmcdiajaaGreatDoor.N

namespace Go.Proofs.YtkihfkcmcdiajaaGreatDoor.N
open Go.RowKit
theorem ex_more {E : PE} {i f : Nat} (hi : i ≤ E.l.length) (hf : fue E ≤ f) : PF E f 0 i 0 = exN E i := PF_fuel E _ _ 0 i 0 hi (by omega) (Nat.le_trans (nee_fue E i) hf) (nee_fue E i)
end Go.Proofs.YtkihfkcmcdiajaaGreatDoor.N

namespace Go.Proofs.YtkihfkcmcdiajaaGreatDoor.T
theorem ckGo_ok (L : List Nd) : ∀ (m k : Nat), k + m = L.length → (ckGo L m k).2 = 0 → (∀ j, k ≤ j → j < L.length → er L j = 0) ∧ (run L L.length).length = 1 := by
  intro m
  induction m with
  | zero =>
    intro k hk h
    refine ⟨fun j h1 h2 => by omega, ?_⟩
    rw [ckGo] at h
    split at h
    · assumption
    · cases h
  | succ m ih =>
    intro k hk h
    rw [ckGo] at h
    split at h
    · next he => exact absurd h he
    · next he =>
      obtain ⟨h1, h2⟩ := ih (k + 1) (by omega) h
      refine ⟨fun j a b => ?_, h2⟩
      by_cases hj : j = k
      · subst hj
        exact Classical.byContradiction he
      · exact h1 j (by omega) b
theorem rt_of {L : List Nd} (h : (ck L).2 = 0) : Rt L := by
  unfold ck at h
  split at h
  · cases h
  · next hl =>
    obtain ⟨h1, h2⟩ := ckGo_ok L L.length 0 (by omega) h
    exact ⟨hl, fun j hj => h1 j (by omega) hj, h2⟩
end Go.Proofs.YtkihfkcmcdiajaaGreatDoor.T

namespace Go.Proofs.YtkihfkcmcdiajaaGreatDoor.T
open Go.RowKit
abbrev zA : Value := .agg #[.int .i64 0, .int .i64 0, .string ⟨#[]⟩, .int .u64 0, .int .u64 0, .int .u64 0, .int .u64 0]
end Go.Proofs.YtkihfkcmcdiajaaGreatDoor.T

namespace Go.Proofs.YtkihfkcmcdiajaaGreatDoor.T
open Go.RowKit
/-- A list as it is handed over. -/
abbrev Ls := Option Addr × Nat × List Nd
def lsV (p : Ls) : Value := .slice p.1 p.2.2.length p.2.1
def flatL (ps : List Ls) : List Nd := ps.flatMap fun p => p.2.2
theorem flatL_succ {ps : List Ls} {i : Nat} {p : Ls} (h : ps[i]? = some p) : flatL (ps.take (i + 1)) = flatL (ps.take i) ++ p.2.2 := by
  unfold flatL
  rw [List.take_add_one, h, List.flatMap_append]
  simp
theorem flatL_len (ps : List Ls) (h : ∀ p ∈ ps, p.2.2.length ≤ 2048) (i : Nat) : (flatL (ps.take i)).length ≤ 2048 * i := by
  induction i with
  | zero => simp [flatL]
  | succ i ih =>
    by_cases q : i < ps.length
    · rw [flatL_succ (List.getElem?_eq_getElem q), List.length_append]
      have := h _ (List.getElem_mem q)
      omega
    · rw [List.take_of_length_le (by omega)]
      rw [List.take_of_length_le (by omega)] at ih
      omega
set_option maxRecDepth 100000 in
set_option maxHeartbeats 8000000 in
theorem chain_any (ps : List Ls) (gl ol c : Nat) (h3 : ps.length ≤ 3) (hl : ∀ p ∈ ps, p.2.2.length ≤ 2048) (w : World) (hc : ∀ i p, ps[i]? = some p → w.cell? ⟨gl, ol + i, none⟩ = some (lsV p) ∧ RdN w p.1 p.2.2) :
    Calls Tryz.prog 42 #[.slice (some ⟨gl, ol, none⟩) ps.length c] w fun e w' => (∃ v, e = .returned v ∧ w'.ownsRow w.heap.size 51 7 v (flatL ps).length (ndc (flatL ps))) ∧ Below w.heap.size w w' := by
  obtain ⟨i0, hinf, hz0, hz1, hz2⟩ := info_parts Tryz.info43
  have HC := (show Hid (∀ i p, ps[i]? = some p → w.cell? ⟨gl, ol + i, none⟩ = some (lsV p) ∧ RdN w p.1 p.2.2) from hc)
  have HG := (show Hid (∀ i, i < ps.length → ∃ p, ps[i]? = some p ∧ p.2.2.length ≤ 2048) from fun i hi => ⟨ps[i], List.getElem?_eq_getElem hi, hl _ (List.getElem_mem hi)⟩)
  have HL := (show Hid (∀ i, (flatL (ps.take i)).length ≤ 2048 * i) from flatL_len ps hl)
  have HA := (show Hid (AtC w w (.slice none 0 0) (flatL (ps.take 0))) from ⟨World.ownsRow_nil _ _ _ _, Below.refl _ _⟩)
  have HZ := (show Hid (flatL (ps.take ps.length) = flatL ps) from by show flatL (ps.take ps.length) = _; rw [List.take_length])
  have HCo : Hid (∀ n w, Calls Tryz.prog 43 #[ndG n] w fun e w' => e = .returned (ndG n) ∧ Below w.heap.size w w') := fun n w => copied_any n w
  clear hc hl
  generalize hm : ps.length = m at *
  clear hm
  go_enter Tryz.func42, Tryz.ntmps42
  go_wp2_with fail
  go_loopw [3, 10] (fun v t wr => ∃ i : Nat, i ≤ m ∧ t = .int .i64 i ∧ Hid (AtC w wr v (flatL (ps.take i)))) (fun _ t _ => m - (intOf t).toNat)
  case atStart => exact ⟨0, by omega, by go_num, HA⟩
  case round =>
    obtain ⟨i, hi, rfl, HW⟩ := hrel
    clear HA
    by_cases hlt : i < m
    · obtain ⟨p, hp, hpl⟩ := HG.out i hlt
      obtain ⟨hcell, hrd⟩ := HC.out i p hp
      have hgl := World.block_lt_of_cell? w _ hcell
      have e0 := (HW.out.b.cell (p := ⟨gl, ol + i, none⟩) hgl).trans hcell
      have HR := (show Hid (RdN w p.1 p.2.2) from hrd)
      have HS := (show Hid (flatL (ps.take (i + 1)) = flatL (ps.take i) ++ p.2.2) from flatL_succ hp)
      have hbl := HL.out i
      have z0 : (0 : Int) ≤ (i : Int) := by omega
      have z1 : (i : Int) < (m : Int) := by omega
      obtain ⟨A, cL, L⟩ := p
      simp only [lsV] at e0 hpl HR HS
      clear hcell hrd hp HG HC HL hgl
      have HL2 := (show Hid (∀ k, k < L.length → ∃ n, L[k]? = some n ∧ L ≠ [] ∧ L.take (k + 1) = L.take k ++ [n]) from fun k hk => ⟨_, List.getElem?_eq_getElem hk, by rintro rfl; simp at hk, by rw [List.take_add_one, List.getElem?_eq_getElem hk]; rfl⟩)
      have HT0 := (show Hid (AtC w wr u3 (flatL (ps.take i) ++ L.take 0)) from by rw [List.take_zero, List.append_nil]; exact HW.out)
      have HTl := (show Hid (L.take L.length = L) from List.take_length)
      clear HW
      go_wp2_with fail
      go_loopw [3, 16] (fun v t wq => ∃ k : Nat, k ≤ L.length ∧ t = .int .i64 k ∧ Hid (AtC w wq v (flatL (ps.take i) ++ L.take k))) (fun _ t _ => L.length - (intOf t).toNat)
      case atStart => exact ⟨0, by omega, by go_num, HT0⟩
      case round =>
        obtain ⟨k, hk, rfl, HW⟩ := hrel
        clear HT0 e0
        by_cases hlt2 : k < L.length
        · obtain ⟨n, hn, hne, htk⟩ := HL2.out k hlt2
          obtain ⟨g, o, rfl, lg, cl⟩ := HR.out hne
          obtain ⟨c0, c1, c2, c3, c4, c5, c6⟩ := (cl.same (HW.out.b.block g lg)) k n hn
          have y0 : (0 : Int) ≤ (k : Int) := by omega
          have y1 : (k : Int) < (L.length : Int) := by omega
          have HTk := (show Hid (L.take (k + 1) = L.take k ++ [n]) from htk)
          have hlk : (flatL (ps.take i) ++ L.take k).length ≤ 8192 := by rw [List.length_append, List.length_take]; omega
          have HWb := (show Hid (AtC w (wr.alloc (ndO n)) _ (flatL (ps.take i) ++ L.take k)) from ⟨HW.out.o.alloc _, HW.out.b.alloc HW.out.b.size _⟩)
          clear hn hne htk cl HL2 HR HW HS
          go_wp2_with fail
          refine (HCo.out n _).mono ?_
          rintro e w2 ⟨rfl, b2⟩
          have hO : w2.ownsRow w.heap.size 51 7 u3 (flatL (ps.take i) ++ L.take k).length (ndc (flatL (ps.take i) ++ L.take k)) := own_below HWb.out.o b2
          have HB2 := (show Hid (Below w.heap.size w w2) from HWb.out.b.trans (b2.mono HWb.out.b.size))
          have hs2 := HB2.out.size
          clear HCo HWb b2 c0 c1 c2 c3 c4 c5 c6
          have HEq := (show Hid (flatL (ps.take i) ++ L.take (k + 1) = (flatL (ps.take i) ++ L.take k) ++ [n]) from by show _ ++ _ = _; rw [HTk.out, List.append_assoc])
          clear HTk
          generalize flatL (ps.take i) ++ L.take k = l at *
          go_wp2_with (at_builtin; refine wpList_append_lies _ rfl _ _ 34 rfl w.heap.size 51 i0 zA 7 64 Tryz.underlying34 hinf hz0 hz1 hz2 rfl (by decide) _ _ _ rfl (hO.alloc _) ⟨w2.heap.size, 0, none⟩ 1 1 (ndV n) rfl rfl ?c1 (nd_one _) (by decide) ?c3 ?c4 ?c5 (w2.heap.size + 1) (by simp) ?_)
          case c1 => exact World.news_of_block (cs := #[.int .i64 n.op, .int .i64 n.nn, .string n.tx, .int .u64 n.s0, .int .u64 n.s1, .int .u64 n.s2, .int .u64 n.s3]) (t := 51) (fr := (0, 0)) (heap_alloc_new w2 _)
          case c3 => unfold maxLen; omega
          case c4 => omega
          case c5 => first | omega | (simp; omega)
          intro g3 cap w3 hown hgrow _ _
          have HW3 := (show Hid (AtC w w3 (.slice (some ⟨g3, 0, none⟩) (l.length + 1) cap) (flatL (ps.take i) ++ L.take (k + 1))) from by
            rw [HEq.out]
            refine ⟨?_, (HB2.out.alloc hs2 _).grown hgrow (by simp; omega) (fun j e => (hO.lt j e).1)⟩
            rw [List.length_append, ndc_append, ndc_one]
            exact hown)
          clear hown hgrow hO HB2 HEq
          go_wp2_with fail
          go_roundw
          case rel => exact ⟨k + 1, by omega, by go_num, HW3⟩
          case measure => simp [intOf]; omega
        · obtain rfl : k = L.length := by omega
          rw [HTl.out, ← HS.out] at HW
          clear HL2 HR HS HTl HCo
          go_wp2_with fail
          go_roundw
          case rel => exact ⟨i + 1, by omega, by go_num, HW⟩
          case measure => simp [intOf]; omega
    · obtain rfl : i = m := by omega
      rw [HZ.out] at HW
      clear HG HC HL HCo
      go_wp2_with fail
      go_ret
      exact ⟨⟨_, rfl, HW.out.o⟩, HW.out.b⟩
end Go.Proofs.YtkihfkcmcdiajaaGreatDoor.T

namespace Go.Proofs.YtkihfkcmcdiajaaGreatDoor.T
open Go.RowKit
set_option maxRecDepth 100000 in
set_option maxHeartbeats 4000000 in
theorem right_any (L : List Nd) (v : Value) (B : Nat) (hL : L.length ≤ 140737488355328) (hT : ∀ n ∈ L, n.tx.size ≤ 140737488355328) (w : World) (h : w.ownsRow B 51 7 v L.length (ndc L)) :
    Calls Tryz.prog 41 #[v] w fun e w' => RiV w w' B L v e ∧ Below w.heap.size w w' := by
  obtain ⟨A, c, rfl, hr⟩ := own_rd h rfl
  have HC : Hid (∀ _ : Unit, Calls Tryz.prog 16 #[.slice A L.length c] w fun e w' => e = .returned (.tuple #[.int .i64 (ck L).1, .int .i64 (ck L).2]) ∧ Below w.heap.size w w') := fun _ => check_any L A c hL hT w hr
  have HO := (show Hid (w.ownsRow B 51 7 (.slice A L.length c) L.length (ndc L)) from h)
  clear h hr hT
  go_enter Tryz.func41, Tryz.ntmps41
  go_wp2_with fail
  refine (HC.out ()).mono ?_
  rintro e w2 ⟨rfl, b2⟩
  have HB := (show Hid (Below w.heap.size w w2) from b2)
  have HO2 := (show Hid (w2.ownsRow B 51 7 (.slice A L.length c) L.length (ndc L)) from own_below HO.out b2)
  clear HC b2 HO
  by_cases hc : (ck L).2 = 0
  · have t1 : ((ck L).2 != 0) = false := by rw [hc]; rfl
    have HI := (show Hid ((ck L).2 = 0) from hc)
    clear hc
    go_wp2_with fail
    go_ret2
    exact ⟨.inr ⟨HI.out, rfl, HO2.out⟩, HB.out⟩
  · have t1 : ((ck L).2 != 0) = true := by rw [bne, beq_eq_false_iff_ne.2 hc]; rfl
    have HI := (show Hid ((ck L).2 ≠ 0) from hc)
    clear hc
    go_wp2_with fail
    go_ret2
    exact ⟨.inl ⟨HI.out, rfl⟩, HB.out⟩
end Go.Proofs.YtkihfkcmcdiajaaGreatDoor.T

namespace Go.Proofs.YtkihfkcmcdiajaaGreatDoor.T
open Go.RowKit
theorem enters47 (args : Array Value) (w : World) : (callFunc 43 args).run Tryz.prog w = .ok (.enter 43 args) w := enters_of Tryz.func43 (by kernel_rfl) rfl args w
theorem step_call47 {ops : Array Oper} {o : Oper} {a : Act} {w : World} {K : Act → World → Prop} {Q : Exit → Act → World → Prop} {E : Prop} (hgd : o.guard = none) (x : Operand) (ho : o.op = .call { callee := .value (.func 43), args := #[x], argTypes := #[51] }) (v : Value) (hx : a.eval x = v)
    (hc : Calls Tryz.prog 43 #[v] w fun e w' => ∃ r, e = .returned r ∧ K (a.put o.dst r) w') :
    if Region.wanted o (yielded ops a.tmps) = true then Oper.wp Tryz.prog o a w K Q else E := by
  have hw : Region.wanted o (yielded ops a.tmps) = true := by simp [Region.wanted, hgd]
  rw [if_pos hw]
  have h47 := enters47
  have he : (execOp a.eval o).run Tryz.prog w = .ok (.enter 43 #[v]) w := by
    unfold execOp
    simp [ho, go_sem, invoke, h47]
    rw [← hx]
    cases x <;> simp [Act.eval]
  unfold Oper.wp
  rw [he, Oper.upon_enter]
  refine hc.mono ?_
  rintro e w' ⟨r, rfl, hk⟩
  exact hk
end Go.Proofs.YtkihfkcmcdiajaaGreatDoor.T

namespace Go.Proofs.YtkihfkcmcdiajaaGreatDoor.T
open Go.RowKit
theorem enters41 (args : Array Value) (w : World) : (callFunc 42 args).run Tryz.prog w = .ok (.enter 42 args) w := enters_of Tryz.func42 (by kernel_rfl) rfl args w
theorem enters46 (args : Array Value) (w : World) : (callFunc 41 args).run Tryz.prog w = .ok (.enter 41 args) w := enters_of Tryz.func41 (by kernel_rfl) rfl args w
/-- A call with one argument as a step of a region that draws its order. -/
theorem step_call1 {F : Nat} (hen : ∀ args w, (callFunc F args).run Tryz.prog w = .ok (.enter F args) w) {ops : Array Oper} {o : Oper} {a : Act} {w : World} {K : Act → World → Prop} {Q : Exit → Act → World → Prop} {E : Prop} (hgd : o.guard = none) (x : Operand) (T : TypeId) (ho : o.op = .call { callee := .value (.func F), args := #[x], argTypes := #[T] }) (v : Value) (hx : a.eval x = v)
    (hc : Calls Tryz.prog F #[v] w fun e w' => ∃ r, e = .returned r ∧ K (a.put o.dst r) w') :
    if Region.wanted o (yielded ops a.tmps) = true then Oper.wp Tryz.prog o a w K Q else E := by
  have hw : Region.wanted o (yielded ops a.tmps) = true := by simp [Region.wanted, hgd]
  rw [if_pos hw]
  have he : (execOp a.eval o).run Tryz.prog w = .ok (.enter F #[v]) w := by
    unfold execOp
    simp [ho, go_sem, invoke, hen]
    rw [← hx]
    cases x <;> simp [Act.eval]
  unfold Oper.wp
  rw [he, Oper.upon_enter]
  refine hc.mono ?_
  rintro e w' ⟨r, rfl, hk⟩
  exact hk
end Go.Proofs.YtkihfkcmcdiajaaGreatDoor.T

namespace Go.Proofs.YtkihfkcmcdiajaaGreatDoor.N
open Go.RowKit
theorem rows_deepA {A E' : PE} (hA : Brk A E' 0) {f j : Nat} (hf : nee A 0 0 ≤ f) (ha : PF A f 0 0 1 = .inr (j, 4)) : ∃ q, PF E' (f + 5) 0 0 0 = .inr (q, 4) := by
  have h1 : PF A (f + 1) 0 0 1 = .inr (j, 4) := by rw [PF_fuel A (f + 1) f 0 0 1 (Nat.zero_le _) (by omega) (by omega) hf]; exact ha
  have h4 := hA.pre4 (f := f + 1) (d := 0) (by omega) h1
  exact ⟨0 + 1 + j, by rw [PF, if_pos rfl, PF, if_neg (by decide), if_neg (by decide), if_pos rfl, h4]; rfl⟩
theorem rows_deepB {A B E' : PE} {g : Nat} (hA : Brk A E' 0) (hB : Brk B E' (A.l.length + 2 + g)) (hg : (g = 0 ∧ kdA E' (A.l.length + 2) = 16) ∨ (g = 1 ∧ kdA E' (A.l.length + 2) = 7)) {f j : Nat} {na : List Nd} (ha : PF A f 0 0 1 = .inl (A.l.length, na)) (hb : PF B f 0 0 1 = .inr (j, 4)) : ∃ q, PF E' (f + 5) 0 0 0 = .inr (q, 4) := by
  have pb := hB.pre4 (d := 0) (by omega) hb
  rcases hg with ⟨rfl, hk⟩ | ⟨rfl, hk⟩
  · have pa' : PF E' (f + 3) 4 0 0 = .inl (A.l.length + 2, na) := by
      have h2 := hA.pre (f := f + 1) (d := 0) (by omega) (PF_more A f 0 0 1 _ ha) (by rw [Nat.zero_add]; exact suf_none hk (.inr (.inr rfl)))
      rw [Nat.zero_add] at h2
      exact h2
    have b1 : bgn E' (A.l.length + 2) = true := by unfold bgn; rw [hk]; rfl
    have h3 : PF E' (f + 3) 3 (A.l.length + 2) 0 = .inr (A.l.length + 2 + 0 + 1 + j, 4) := by
      rw [PF, if_neg (by decide), if_neg (by decide), if_neg (by decide), if_pos rfl, if_pos b1, show PF E' (f + 2) 4 (A.l.length + 2) 0 = _ from pb]
      rfl
    have h2 : PF E' (f + 4) 2 0 0 = .inr (A.l.length + 2 + 0 + 1 + j, 4) := by
      rw [PF, if_neg (by decide), if_neg (by decide), if_pos rfl, bnd_mk pa', h3]
      rfl
    exact ⟨_, by rw [PF, if_pos rfl, h2]; rfl⟩
  · have pa' : PF E' (f + 3) 4 0 0 = .inl (A.l.length + 2, na) := by
      have h2 := hA.pre (f := f + 1) (d := 0) (by omega) (PF_more A f 0 0 1 _ ha) (by rw [Nat.zero_add]; exact suf_none hk (.inr (.inl rfl)))
      rw [Nat.zero_add] at h2
      exact h2
    have h3 : PF E' (f + 3) 3 (A.l.length + 2) 0 = .inl (A.l.length + 2, []) := by
      rw [PF, if_neg (by decide), if_neg (by decide), if_neg (by decide), if_pos rfl, if_neg (by unfold bgn bgK; rw [hk]; simp)]
    have h2 : PF E' (f + 4) 2 0 0 = .inl (A.l.length + 2, na) := by
      rw [PF, if_neg (by decide), if_neg (by decide), if_pos rfl, bnd_mk pa', ahd_mk h3, List.append_nil]
    have h2b : PF E' (f + 3) 2 (A.l.length + 2 + 1) 0 = .inr (A.l.length + 2 + 1 + 1 + j, 4) := by
      rw [PF, if_neg (by decide), if_neg (by decide), if_pos rfl, pb]
      rfl
    have h1 : PF E' (f + 4) 1 (A.l.length + 2) 0 = .inr (A.l.length + 2 + 1 + 1 + j, 4) := by
      rw [PF, if_neg (by decide), if_pos rfl, if_pos hk, h2b]
      rfl
    exact ⟨_, by rw [PF, if_pos rfl, bnd_mk h2, h1]; rfl⟩
end Go.Proofs.YtkihfkcmcdiajaaGreatDoor.N

namespace Go.Proofs.YtkihfkcmcdiajaaGreatDoor
open Go.RowKit
/-- '(', a text, a line feed, ')', what stands between, '(', a text, a line feed, ')'. -/
theorem chn_rows {x y mid : List UInt8} {X Y : List Tk} (g : Bool) (hm : mid = if g then [10, 41, 32, 47, 32, 40] else [10, 41, 32, 40]) (hx : Chn (tx8 x) 0 X) (hy : Chn (tx8 y) 0 Y) : ∃ X2 Y2 a b c d e, Chn (tx8 ([40] ++ (x ++ (mid ++ (y ++ [10, 41]))))) 0 (sgT 16 a :: (X2 ++ (sgT 17 b :: ((if g then [sgT 7 c] else []) ++ (sgT 16 d :: (Y2 ++ [sgT 17 e])))))) ∧ X2.map lkT = X.map lkT ∧ Y2.map lkT = Y.map lkT := by
  have hsz : (tx8 ([40] ++ (x ++ (mid ++ (y ++ [10, 41]))))).size = 1 + x.length + mid.length + y.length + 2 := by rw [tx_size]; simp only [List.length_append, List.length_cons, List.length_nil]; omega
  have hax := ag_put [40] x (mid ++ (y ++ [10, 41]))
  have hay : Ag (tx8 y) 0 (tx8 ([40] ++ (x ++ (mid ++ (y ++ [10, 41]))))) (1 + x.length + mid.length) (tx8 y).size := by
    have := ag_put ([40] ++ x ++ mid) y [10, 41]
    rw [show ([40] ++ x ++ mid : List UInt8).length = 1 + x.length + mid.length from by simp only [List.length_append, List.length_cons, List.length_nil], show [40] ++ x ++ mid ++ (y ++ [10, 41]) = [40] ++ (x ++ (mid ++ (y ++ [10, 41]))) from by simp] at this
    exact this
  have c0 : chr (tx8 ([40] ++ (x ++ (mid ++ (y ++ [10, 41]))))) 0 = 40 := by rw [chr_tx]; rfl
  have key1 : ∀ j, j < mid.length → chr (tx8 ([40] ++ (x ++ (mid ++ (y ++ [10, 41]))))) (1 + x.length + j) = chL mid j := fun j hj => by
    rw [show [40] ++ (x ++ (mid ++ (y ++ [10, 41]))) = ([40] ++ x) ++ (mid ++ (y ++ [10, 41])) from by simp, at_n _ _ j _ (by simp only [List.length_append, List.length_cons, List.length_nil]), chL_left _ _ _ hj]
  have key2 : ∀ j, chr (tx8 ([40] ++ (x ++ (mid ++ (y ++ [10, 41]))))) (1 + x.length + mid.length + y.length + j) = chL [10, 41] j := fun j => by
    rw [show [40] ++ (x ++ (mid ++ (y ++ [10, 41]))) = ([40] ++ x ++ mid ++ y) ++ [10, 41] from by simp]
    exact at_n _ _ _ _ (by simp only [List.length_append, List.length_cons, List.length_nil])
  generalize tx8 ([40] ++ (x ++ (mid ++ (y ++ [10, 41])))) = s' at *
  have hM : Chn s' (1 + x.length + mid.length + y.length) [sgT 17 (1 + x.length + mid.length + y.length + 1)] := by
    refine chn_bl (key2 0) (.inr rfl) (chn_sg (key2 1) (.inr (.inl ⟨rfl, rfl⟩)) ?_)
    show gapN s' (1 + x.length + mid.length + y.length + 2) = s'.size
    rw [show 1 + x.length + mid.length + y.length + 2 = s'.size from by omega]
    exact gap_end s'
  obtain ⟨Y2, h2, h3⟩ := chn_put hay (key2 0) (by show 1 + x.length + mid.length + y.length ≤ _; omega) hM Y 0 (by omega) hy
  have h2 : Chn s' (1 + x.length + mid.length) (Y2 ++ [sgT 17 (1 + x.length + mid.length + y.length + 1)]) := h2
  cases g with
  | false =>
    subst hm
    have k0 := key1 0 (by decide)
    have k1 := key1 1 (by decide)
    have k2 := key1 2 (by decide)
    have k3 := key1 3 (by decide)
    have hN : Chn s' (1 + x.length) (sgT 17 (1 + x.length + 1) :: sgT 16 (1 + x.length + 3) :: (Y2 ++ [sgT 17 (1 + x.length + 4 + y.length + 1)])) :=
      chn_bl k0 (.inr rfl) (chn_sg k1 (.inr (.inl ⟨rfl, rfl⟩)) (chn_bl k2 (.inl rfl) (chn_sg k3 (.inl ⟨rfl, rfl⟩) h2)))
    obtain ⟨X2, x2, x3⟩ := chn_put hax k0 (by show 1 + x.length ≤ _; omega) hN X 0 (by omega) hx
    exact ⟨X2, Y2, 0, 1 + x.length + 1, 0, 1 + x.length + 3, 1 + x.length + 4 + y.length + 1, chn_sg c0 (.inl ⟨rfl, rfl⟩) x2, x3, h3⟩
  | true =>
    subst hm
    have k0 := key1 0 (by decide)
    have k1 := key1 1 (by decide)
    have k2 := key1 2 (by decide)
    have k3 := key1 3 (by decide)
    have k4 := key1 4 (by decide)
    have k5 := key1 5 (by decide)
    have hN : Chn s' (1 + x.length) (sgT 17 (1 + x.length + 1) :: sgT 7 (1 + x.length + 3) :: sgT 16 (1 + x.length + 5) :: (Y2 ++ [sgT 17 (1 + x.length + 6 + y.length + 1)])) :=
      chn_bl k0 (.inr rfl) (chn_sg k1 (.inr (.inl ⟨rfl, rfl⟩)) (chn_bl k2 (.inl rfl) (chn_sg k3 (.inr (.inr ⟨rfl, rfl⟩)) (chn_bl k4 (.inl rfl) (chn_sg k5 (.inl ⟨rfl, rfl⟩) h2)))))
    obtain ⟨X2, x2, x3⟩ := chn_put hax k0 (by show 1 + x.length ≤ _; omega) hN X 0 (by omega) hx
    exact ⟨X2, Y2, 0, 1 + x.length + 1, 1 + x.length + 3, 1 + x.length + 5, 1 + x.length + 6 + y.length + 1, chn_sg c0 (.inl ⟨rfl, rfl⟩) x2, x3, h3⟩
end Go.Proofs.YtkihfkcmcdiajaaGreatDoor

namespace Go.Proofs.YtkihfkcmcdiajaaGreatDoor.N
open Go.RowKit
theorem PF_at1 {L L2 : List Tk} {rn : Int → Int → List Nd} {tm : ByteArray → Bool} {ns : List Nd} (hm : L2.map lkT = L.map lkT) (h : who ⟨L, rn, tm⟩ ns) (f : Nat) (hf : fue ⟨L, rn, tm⟩ ≤ f) : PF ⟨L2, rn, tm⟩ f 0 0 1 = .inl (L2.length, ns) ∨ ∃ j, PF ⟨L2, rn, tm⟩ f 0 0 1 = .inr (j, 4) ∧ 241 ≤ L.length := by
  have hl := len_lk hm
  have hw : PF ⟨L2, rn, tm⟩ f 0 0 0 = .inl (L2.length, ns) := by
    rw [PF_alk (alk_lk hm rn tm), hl, ex_more (Nat.zero_le _) hf]
    exact h
  rcases PF_deep _ _ _ _ _ _ _ (Nat.zero_le _) (by omega) hw with q | ⟨j, q, j1, j2⟩
  · exact .inl q
  · exact .inr ⟨j, q, by omega⟩
theorem rows_who {X Y X2 Y2 G : List Tk} {o1 c1 o2 c2 : Tk} {rn : Int → Int → List Nd} {tm : ByteArray → Bool} {na nb : List Nd} (hx : X2.map lkT = X.map lkT) (hy : Y2.map lkT = Y.map lkT) (p1 : o1.kd = 16) (p2 : c1.kd = 17) (p3 : o2.kd = 16) (p4 : c2.kd = 17) (hG : G = [] ∨ ∃ u, G = [u] ∧ u.kd = 7) (hA : who ⟨X, rn, tm⟩ na) (hB : who ⟨Y, rn, tm⟩ nb) :
    who ⟨o1 :: (X2 ++ (c1 :: (G ++ (o2 :: (Y2 ++ [c2]))))), rn, tm⟩ (na ++ nb ++ [nd0 (if G.length = 0 then 7 else 8)]) ∨ ∃ j, exN ⟨o1 :: (X2 ++ (c1 :: (G ++ (o2 :: (Y2 ++ [c2]))))), rn, tm⟩ 0 = .inr (j, 4) ∧ (241 ≤ X.length ∨ 241 ≤ Y.length) := by
  have lx := len_lk hx
  have ly := len_lk hy
  have bA : Brk ⟨X2, rn, tm⟩ ⟨o1 :: (X2 ++ (c1 :: (G ++ (o2 :: (Y2 ++ [c2]))))), rn, tm⟩ 0 := brk_of [] X2 (G ++ (o2 :: (Y2 ++ [c2]))) o1 c1 rn tm p1 p2
  have bB : Brk ⟨Y2, rn, tm⟩ ⟨o1 :: (X2 ++ (c1 :: (G ++ (o2 :: (Y2 ++ [c2]))))), rn, tm⟩ (X2.length + 2 + G.length) := by
    have := brk_of (o1 :: (X2 ++ (c1 :: G))) Y2 [] o2 c2 rn tm p3 p4
    rw [show (o1 :: (X2 ++ (c1 :: G))).length = X2.length + 2 + G.length from by simp; omega, show o1 :: (X2 ++ (c1 :: G)) ++ (o2 :: (Y2 ++ [c2])) = o1 :: (X2 ++ (c1 :: (G ++ (o2 :: (Y2 ++ [c2]))))) from by simp] at this
    exact this
  have hk : (G.length = 0 ∧ kdA ⟨o1 :: (X2 ++ (c1 :: (G ++ (o2 :: (Y2 ++ [c2]))))), rn, tm⟩ (X2.length + 2) = 16) ∨ (G.length = 1 ∧ kdA ⟨o1 :: (X2 ++ (c1 :: (G ++ (o2 :: (Y2 ++ [c2]))))), rn, tm⟩ (X2.length + 2) = 7) := by
    have hi : (o1 :: (X2 ++ (c1 :: (G ++ (o2 :: (Y2 ++ [c2]))))))[X2.length + 2]? = (G ++ (o2 :: (Y2 ++ [c2])))[0]? := by
      rw [List.getElem?_cons_succ, List.getElem?_append_right (by omega), show X2.length + 1 - X2.length = 1 from by omega]
      rfl
    rcases hG with rfl | ⟨u, rfl, hu⟩
    · left; refine ⟨rfl, ?_⟩; unfold kdA; rw [hi]; exact p3
    · right; refine ⟨rfl, ?_⟩; unfold kdA; rw [hi]; exact hu
  have hlen : (⟨o1 :: (X2 ++ (c1 :: (G ++ (o2 :: (Y2 ++ [c2]))))), rn, tm⟩ : PE).l.length = X2.length + 2 + G.length + Y2.length + 2 := by
    show (o1 :: (X2 ++ (c1 :: (G ++ (o2 :: (Y2 ++ [c2])))))).length = _
    simp
    omega
  obtain ⟨f, hf, f1, f2, f3⟩ : ∃ f, fue ⟨o1 :: (X2 ++ (c1 :: (G ++ (o2 :: (Y2 ++ [c2]))))), rn, tm⟩ = f + 5 ∧ fue ⟨X, rn, tm⟩ ≤ f ∧ fue ⟨Y, rn, tm⟩ ≤ f ∧ nee ⟨X2, rn, tm⟩ 0 0 ≤ f := by
    refine ⟨5 * (X2.length + 2 + G.length + Y2.length + 2), ?_, ?_, ?_, ?_⟩
    · unfold fue; rw [hlen]
    · unfold fue; dsimp only; omega
    · unfold fue; dsimp only; omega
    · unfold nee; rw [rk0]; dsimp only; omega
  rcases PF_at1 hx hA f f1 with a | ⟨j, a, a2⟩
  · rcases PF_at1 hy hB f f2 with b | ⟨j, b, b2⟩
    · left
      unfold who exN
      rw [hf]
      exact rows_ok bA bB hk hlen a b
    · right
      obtain ⟨q, hq⟩ := rows_deepB bA bB hk a b
      exact ⟨q, by unfold exN; rw [hf, hq], .inr b2⟩
  · right
    obtain ⟨q, hq⟩ := rows_deepA bA f3 a
    exact ⟨q, by unfold exN; rw [hf, hq], .inl a2⟩
end Go.Proofs.YtkihfkcmcdiajaaGreatDoor.N

namespace Go.Proofs.YtkihfkcmcdiajaaGreatDoor.N
open Go.RowKit
theorem szGo_none {E : PE} {z : Nat} : ∀ (rs : List Rl) (all : Nat), all ≤ 2048 → szGo E z all rs = none → (∀ r ∈ rs, (T.ck r.2.2).2 = 0) ∧ all + (rs.map fun r => r.2.2.length).sum ≤ 2048 := by
  intro rs
  induction rs with
  | nil => intro all ha _; exact ⟨fun r hr => (by cases hr), by simpa using ha⟩
  | cons r rs ih =>
    intro all ha h
    rw [szGo] at h
    by_cases h1 : (T.ck r.2.2).2 ≠ 0
    · rw [if_pos h1] at h; cases h
    · rw [if_neg h1] at h
      by_cases h2 : 2048 < all + r.2.2.length
      · rw [if_pos h2] at h; cases h
      · rw [if_neg h2] at h
        obtain ⟨h3, h4⟩ := ih _ (by omega) h
        refine ⟨fun x hx => ?_, by rw [List.map_cons, List.sum_cons]; omega⟩
        rcases List.mem_cons.1 hx with rfl | q
        · exact Decidable.not_not.1 h1
        · exact h3 x q
theorem szR_none {E : PE} {z : Nat} {rs : List Rl} (h : szR E z rs = none) : rs.length ≤ 200 ∧ (∀ r ∈ rs, (T.ck r.2.2).2 = 0) ∧ (rs.map fun r => r.2.2.length).sum ≤ 2048 := by
  unfold szR at h
  cases hr : rs[200]? with
  | some r => rw [hr] at h; cases h
  | none =>
    rw [hr] at h
    obtain ⟨h1, h2⟩ := szGo_none rs 0 (by omega) h
    exact ⟨List.getElem?_eq_none_iff.1 hr, h1, by omega⟩
theorem szGo_some {E : PE} {z : Nat} : ∀ (rs : List Rl) (all : Nat) (p : Int × Int), szGo E z all rs = some p → p.2 ≠ 0 ∧ ∃ i, p.1 = plA E z i := by
  intro rs
  induction rs with
  | nil => intro all p h; rw [szGo] at h; cases h
  | cons r rs ih =>
    intro all p h
    rw [szGo] at h
    by_cases h1 : (T.ck r.2.2).2 ≠ 0
    · rw [if_pos h1] at h; cases h; exact ⟨h1, _, rfl⟩
    · rw [if_neg h1] at h
      by_cases h2 : 2048 < all + r.2.2.length
      · rw [if_pos h2] at h; cases h; exact ⟨by show (2 : Int) ≠ 0; decide, _, rfl⟩
      · rw [if_neg h2] at h; exact ih _ _ h
theorem szR_some {E : PE} {z : Nat} {rs : List Rl} {p : Int × Int} (h : szR E z rs = some p) : p.2 ≠ 0 ∧ ∃ i, p.1 = plA E z i := by
  unfold szR at h
  cases hr : rs[200]? with
  | some r => rw [hr] at h; cases h; exact ⟨by show (2 : Int) ≠ 0; decide, _, rfl⟩
  | none => rw [hr] at h; exact szGo_some rs 0 p h
theorem alN_err {E : PE} {q : Nat × Int} (h : alN E = .inr q) : q.2 = 60 ∨ q.2 = 61 ∨ q.2 = 4 ∨ q.2 = 1 := by
  unfold alN at h
  cases hx : exN E 0 with
  | inr p => rw [hx] at h; cases h; exact (ex_err (Nat.zero_le _) hx).2
  | inl p =>
    rw [hx] at h
    dsimp only at h
    split at h
    · cases h; exact .inl rfl
    · cases h
/-- Where tokens stand. -/
theorem chn_fr {s : ByteArray} : ∀ (l : List Tk) (i : Nat), Chn s i l → ∀ t ∈ l, 0 ≤ t.fr ∧ t.fr ≤ s.size := by
  intro l
  induction l with
  | nil => intro i _ t ht; cases ht
  | cons a l ih =>
    intro i h t ht
    obtain ⟨h1, h2, e, _, _, _, h3⟩ := h
    rcases List.mem_cons.1 ht with rfl | h4
    · have := oneP_fr h2; omega
    · exact ih e h3 t h4
theorem plA_bd {s : ByteArray} {l : List Tk} (h : lexR (oneP s) s = .inl l) (i : Nat) : 0 ≤ plA (mkE l) s.size i ∧ plA (mkE l) s.size i ≤ s.size := by
  unfold plA
  split
  · next hi =>
    have hi : i < l.length := hi
    have : tkA (mkE l) i = l[i] := by unfold tkA mkE; rw [List.getElem?_eq_getElem hi]; rfl
    rw [this]
    exact chn_fr l 0 (lex_chn h).2 _ (List.getElem_mem hi)
  · omega
theorem fin_err {s : ByteArray} {l : List Tk} (hl : lexR (oneP s) s = .inl l) {r : Sum (List Rl) (Nat × Int)} (hr : ∀ q, r = .inr q → q.2 = 60 ∨ q.2 = 61 ∨ q.2 = 4 ∨ q.2 = 1) {p : Int × Int} (h : fin (mkE l) s.size r = .inr p) : p.2 ≠ 0 ∧ 0 ≤ p.1 ∧ p.1 ≤ s.size := by
  unfold fin at h
  cases r with
  | inr q =>
    cases h
    have h1 := hr q rfl
    have h2 := plA_bd hl q.1
    exact ⟨by show q.2 ≠ 0; omega, h2.1, h2.2⟩
  | inl rs =>
    dsimp only at h
    cases hs : szR (mkE l) s.size rs with
    | none => rw [hs] at h; cases h
    | some x =>
      rw [hs] at h
      cases h
      obtain ⟨h1, i, h2⟩ := szR_some hs
      have h3 := plA_bd hl i
      rw [h2]
      exact ⟨h1, h3.1, h3.2⟩
theorem paR_err {s : ByteArray} {p : Int × Int} (h : paR s = .inr p) : p.2 ≠ 0 ∧ 0 ≤ p.1 ∧ p.1 ≤ s.size := by
  unfold paR at h
  cases hl : lexR (oneP s) s with
  | inr q =>
    rw [hl] at h
    cases h
    have := lex_bad hl
    exact ⟨this.2, by show (0 : Int) ≤ (q.1 : Int); omega, by show (q.1 : Int) ≤ _; omega⟩
  | inl l => rw [hl] at h; exact fin_err hl (fun q hq => alN_err hq) h
theorem fin_ok {E : PE} {z : Nat} {r : Sum (List Rl) (Nat × Int)} {gs : List (ByteArray × List Nd)} (h : fin E z r = .inl gs) : ∃ rs, r = .inl rs ∧ szR E z rs = none ∧ gs = rs.map fun r => r.2 := by
  unfold fin at h
  cases r with
  | inr q => cases h
  | inl rs =>
    dsimp only at h
    cases hs : szR E z rs with
    | some x => rw [hs] at h; cases h
    | none => rw [hs] at h; cases h; exact ⟨rs, rfl, hs, rfl⟩
theorem alN_ok {E : PE} {rs : List Rl} (h : alN E = .inl rs) : ∃ ns, rs = [(0, ⟨#[]⟩, ns)] ∧ who E ns := by
  unfold alN at h
  cases hx : exN E 0 with
  | inr p => rw [hx] at h; cases h
  | inl p =>
    obtain ⟨a, ns⟩ := p
    rw [hx] at h
    dsimp only at h
    have := (ex_adv (Nat.zero_le _) hx).2
    split at h
    · cases h
    · cases h
      refine ⟨ns, rfl, ?_⟩
      unfold who
      rw [hx, show a = E.l.length from by omega]
/-- A pattern that Pattern tells. -/
theorem paR_ok {s : ByteArray} {gs : List (ByteArray × List Nd)} (h : paR s = .inl gs) : ∃ l ns, lexR (oneP s) s = .inl l ∧ gs = [(⟨#[]⟩, ns)] ∧ who (mkE l) ns ∧ (T.ck ns).2 = 0 ∧ ns.length ≤ 2048 := by
  unfold paR at h
  cases hl : lexR (oneP s) s with
  | inr q => rw [hl] at h; cases h
  | inl l =>
    rw [hl] at h
    obtain ⟨rs, h1, h2, h3⟩ := fin_ok h
    obtain ⟨ns, h4, h5⟩ := alN_ok h1
    subst h4
    obtain ⟨_, h6, h7⟩ := szR_none h2
    refine ⟨l, ns, rfl, h3, h5, h6 _ (List.mem_singleton.2 rfl), by simpa using h7⟩
theorem alN_who {E : PE} {ns : List Nd} (h : who E ns) : alN E = .inl [(0, ⟨#[]⟩, ns)] := by
  unfold alN
  unfold who at h
  rw [h]
  show (if E.l.length < E.l.length then _ else _) = _
  rw [if_neg (Nat.lt_irrefl _)]
theorem szR_one {E : PE} {z : Nat} {ns : List Nd} (h1 : (T.ck ns).2 = 0) (h2 : ns.length ≤ 2048) : szR E z [(0, ⟨#[]⟩, ns)] = none := by
  unfold szR
  show szGo E z 0 [(0, ⟨#[]⟩, ns)] = none
  rw [szGo, if_neg (by rw [h1]; simp), if_neg (by show ¬ 2048 < 0 + ns.length; omega), szGo]
theorem paR_who {s : ByteArray} {l : List Tk} {ns : List Nd} (hl : lexR (oneP s) s = .inl l) (h : who (mkE l) ns) (h1 : (T.ck ns).2 = 0) (h2 : ns.length ≤ 2048) : paR s = .inl [(⟨#[]⟩, ns)] := by
  unfold paR
  rw [hl]
  show fin (mkE l) s.size (alN (mkE l)) = _
  rw [alN_who h]
  unfold fin
  simp only [szR_one h1 h2]
  rfl
theorem paR_deep {s : ByteArray} {l : List Tk} {j : Nat} (hl : lexR (oneP s) s = .inl l) (h : exN (mkE l) 0 = .inr (j, 4)) : ∃ p, paR s = .inr (p, 4) := by
  refine ⟨plA (mkE l) s.size j, ?_⟩
  unfold paR
  rw [hl]
  show fin (mkE l) s.size (alN (mkE l)) = _
  unfold alN
  rw [h]
  rfl
theorem ck_len {L : List Nd} (h : (T.ck L).2 = 0) : L.length ≤ 2048 := by
  unfold T.ck at h
  by_cases q : 2048 < L.length
  · rw [if_pos q] at h; exact absurd h (by decide)
  · omega
theorem tx8_of (s : ByteArray) : tx8 s.data.toList = s := by unfold tx8; rfl
end Go.Proofs.YtkihfkcmcdiajaaGreatDoor.N

namespace Go.Proofs.YtkihfkcmcdiajaaGreatDoor.N
open Go.RowKit
def dot : ByteArray := ⟨#[46]⟩
theorem lex_dot : lexR (oneP dot) dot = .inl [⟨18, 0, 0, 1, ⟨#[]⟩, 0, 0, 0, 0⟩] := rfl
theorem ex_dot : exN (mkE [⟨18, 0, 0, 1, ⟨#[]⟩, 0, 0, 0, 0⟩]) 0 = .inl (1, [nd0 3]) := rfl
theorem ck_any : (T.ck [nd0 3]).2 = 0 := by
  have e : (⟨#[]⟩ : ByteArray) = ByteArray.empty := rfl
  simp [nd0, T.ck, T.ckGo, T.er, T.alE, T.fdF, T.txF, T.nuF, T.seF, T.ar, T.run, T.pt, T.mk, T.arN, T.opAt, e]
theorem pa_dot : paR dot = .inl [(⟨#[]⟩, [nd0 3])] := paR_who lex_dot ex_dot ck_any (by simp)
theorem fx_eql (a b c d : Int) (W : World) : (binOp .eql 27 (.agg #[.int .i64 a, .int .i64 b]) (.agg #[.int .i64 c, .int .i64 d])).run Tryz.prog W = .ok (.bool (a == c && b == d)) W := by
  have h := eq26 a b c d W
  have e : Op.maxDepth = 10000 := rfl
  simp [binOp, Op.equal, e, h]
set_option maxRecDepth 100000 in
set_option maxHeartbeats 8000000 in
theorem lives_any (w : World) (hg : GW w) : Calls Tryz.prog 11 #[] w fun e w' => e = .returned (.bool true) ∧ Below w.heap.size w w' := by
  have HP : Hid (∀ _ : Unit, Calls Tryz.prog 13 #[.string ⟨#[46]⟩] w fun e w' => (∃ v, e = .returned (.tuple #[v, .agg #[.int .i64 0, .int .i64 0]]) ∧ w'.ownsRow w.heap.size 51 7 v 1 (T.ndc [nd0 3])) ∧ Below w.heap.size w w') := fun _ => by
    refine (patt_any dot w hg).mono ?_
    rintro e w' ⟨h1, h2⟩
    rw [pa_dot] at h1
    obtain ⟨v, ns, h3, h4, h5⟩ := h1
    have e1 : [nd0 3] = ns := by
      injection h3 with h6 _
      injection h6 with _ h8
    subst e1
    exact ⟨⟨v, h4, h5⟩, h2⟩
  have hfe := fx_eql
  clear hg
  go_enter Tryz.func11, Tryz.ntmps11
  go_wp2_with fail
  refine (HP.out ()).mono ?_
  rintro e w1 ⟨⟨v, rfl, ho⟩, hb⟩
  obtain ⟨g, c, rfl, _, hlt⟩ := ho.form (by decide)
  have hc : w1.cell? ⟨g, 0, none⟩ = some (.int .i64 3) := by
    have := ho.cells (g := g) rfl 0 (.int .i64 3) rfl
    rwa [Addr.add_lit, Nat.zero_add] at this
  have hc2 : ∀ o, (w1.alloc o).cell? ⟨g, 0, none⟩ = some (.int .i64 3) := fun o => ((below_box w1 o).cell (p := ⟨g, 0, none⟩) hlt).trans hc
  have HB := (show Hid (Below w.heap.size w w1) from hb)
  have hn : ¬ g = w1.heap.size := by omega
  clear hb ho HP
  go_wp2_with fail
  go_ret
  exact ⟨rfl, HB.out.alloc HB.out.size _⟩
/-- Two equal rows of nodes. -/
theorem same_any {w : World} {v1 v2 : Value} {B1 B2 : Nat} {L M : List Nd} (hl : L.length ≤ 2048) (hm : M.length ≤ 2048) (h1 : w.ownsRow B1 51 7 v1 L.length (T.ndc L)) (h2 : w.ownsRow B2 51 7 v2 M.length (T.ndc M)) : Calls Tryz.prog 15 #[v1, v2] w fun e w' => e = .returned (.bool (T.patB L M)) ∧ Below w.heap.size w w' := by
  obtain ⟨A1, c1, rfl, r1⟩ := T.own_rd h1 rfl
  obtain ⟨A2, c2, rfl, r2⟩ := T.own_rd h2 rfl
  exact T.samePattern_any A1 A2 c1 c2 L M (by omega) (by omega) w r1 r2
end Go.Proofs.YtkihfkcmcdiajaaGreatDoor.N

namespace Go.Proofs.YtkihfkcmcdiajaaGreatDoor.T
/-- What is wrong with the first part that is not right. -/
def prt : List (List Nd) → Int
  | [] => 0
  | p :: r => if (ck p).2 ≠ 0 then (ck p).2 else prt r
theorem prt_bad : ∀ {Ps : List (List Nd)} {i : Nat} {p : List Nd}, (∀ j q, j < i → Ps[j]? = some q → (ck q).2 = 0) → Ps[i]? = some p → (ck p).2 ≠ 0 → prt Ps = (ck p).2 := by
  intro Ps
  induction Ps with
  | nil => intro i p _ hp; cases hp
  | cons a r ih =>
    intro i p h hp he
    cases i with
    | zero => cases hp; rw [prt, if_pos he]
    | succ i =>
      have h0 := h 0 a (by omega) rfl
      rw [prt, if_neg (by rw [h0]; simp)]
      exact ih (i := i) (fun j q hj hq => h (j + 1) q (by omega) (by simpa using hq)) (by simpa using hp) he
theorem prt_ok : ∀ {Ps : List (List Nd)}, (∀ q ∈ Ps, (ck q).2 = 0) → prt Ps = 0 := by
  intro Ps
  induction Ps with
  | nil => intro _; rfl
  | cons a r ih =>
    intro h
    rw [prt, if_neg (by rw [h a (by simp)]; simp)]
    exact ih (fun q hq => h q (by simp [hq]))
theorem prt_all : ∀ {Ps : List (List Nd)}, prt Ps = 0 → ∀ q ∈ Ps, (ck q).2 = 0 := by
  intro Ps
  induction Ps with
  | nil => intro _ q hq; cases hq
  | cons a r ih =>
    intro h q hq
    rw [prt] at h
    by_cases h0 : (ck a).2 ≠ 0
    · rw [if_pos h0] at h; exact absurd h h0
    rw [if_neg h0] at h
    rcases List.mem_cons.1 hq with rfl | hq
    · exact Classical.byContradiction h0
    · exact ih h q hq
def jnE (n : Nd) (Ps : List (List Nd)) : Int := if alE n ≠ 0 then alE n else if (Ps.length : Int) ≠ ar n.op then 42 else if prt Ps ≠ 0 then prt Ps else (ck (Ps.flatten ++ [n])).2
def jnL (n : Nd) (Ps : List (List Nd)) : List Nd := if jnE n Ps = 0 then Ps.flatten ++ [n] else []
theorem jnE_1 {n : Nd} {Ps : List (List Nd)} (h : alE n ≠ 0) : jnE n Ps = alE n := by unfold jnE; rw [if_pos h]
theorem jnE_2 {n : Nd} {Ps : List (List Nd)} (h : alE n = 0) (h2 : (Ps.length : Int) ≠ ar n.op) : jnE n Ps = 42 := by unfold jnE; rw [if_neg (by rw [h]; simp), if_pos h2]
theorem jnE_3 {n : Nd} {Ps : List (List Nd)} (h : alE n = 0) (h2 : (Ps.length : Int) = ar n.op) (h3 : prt Ps ≠ 0) : jnE n Ps = prt Ps := by unfold jnE; rw [if_neg (by rw [h]; simp), if_neg (by rw [h2]; simp), if_pos h3]
theorem jnE_4 {n : Nd} {Ps : List (List Nd)} (h : alE n = 0) (h2 : (Ps.length : Int) = ar n.op) (h3 : prt Ps = 0) : jnE n Ps = (ck (Ps.flatten ++ [n])).2 := by unfold jnE; rw [if_neg (by rw [h]; simp), if_neg (by rw [h2]; simp), if_neg (by rw [h3]; simp)]
theorem flat_len : ∀ {Ps : List (List Nd)}, (∀ q ∈ Ps, Rt q) → Ps.flatten.length ≤ 2048 * Ps.length := by
  intro Ps
  induction Ps with
  | nil => intro _; simp
  | cons a r ih =>
    intro h
    have h1 := (h a (by simp)).len
    have h2 := ih (fun q hq => h q (by simp [hq]))
    rw [List.flatten_cons, List.length_append, List.length_cons]
    omega
theorem flatL_eq (ps : List Ls) : flatL ps = (ps.map fun p => p.2.2).flatten := by unfold flatL; rw [List.flatMap_def]
open Go.RowKit
def JnV (w w' : World) (n : Nd) (Ps : List (List Nd)) (e : Ending) : Prop := ∃ v, e = .returned (.tuple #[v, .int .i64 (jnE n Ps)]) ∧ w'.ownsRow w.heap.size 51 7 v (jnL n Ps).length (ndc (jnL n Ps))
theorem JnV.bad {w w' : World} {n : Nd} {Ps : List (List Nd)} {x : Int} (h : jnE n Ps = x) (hx : x ≠ 0) : JnV w w' n Ps (.returned (.tuple #[.slice none 0 0, .int .i64 x])) := by
  refine ⟨_, by rw [h], ?_⟩
  unfold jnL
  rw [h, if_neg hx]
  exact World.ownsRow_nil _ _ _ _
theorem JnV.end {w w' : World} {n : Nd} {Ps : List (List Nd)} (h : alE n = 0) (h2 : (Ps.length : Int) = ar n.op) (h3 : prt Ps = 0) {v : Value} {F : List Nd} (hF : F = Ps.flatten ++ [n]) (hv : w'.ownsRow w.heap.size 51 7 v (if (ck F).2 = 0 then F else []).length (ndc (if (ck F).2 = 0 then F else []))) : JnV w w' n Ps (.returned (.tuple #[v, .int .i64 (ck F).2])) := by
  subst hF
  refine ⟨v, by rw [jnE_4 h h2 h3], ?_⟩
  unfold jnL
  rw [jnE_4 h h2 h3]
  exact hv
/-- A list of lists, to be read. -/
def RdL (W : World) (A : Option Addr) (ps : List Ls) : Prop := (ps ≠ [] → ∃ g o, A = some ⟨g, o, none⟩ ∧ g < W.heap.size ∧ ∀ (i : Nat) p, ps[i]? = some p → W.cell? ⟨g, o + i, none⟩ = some (lsV p)) ∧ ∀ p ∈ ps, RdN W p.1 p.2.2
theorem RdL.below {W W' : World} {A : Option Addr} {ps : List Ls} {B : Nat} (h : RdL W A ps) (hb : Below B W W') (hB : W.heap.size ≤ B) : RdL W' A ps := ⟨fun hne => by
  obtain ⟨g, o, e, lg, hc⟩ := h.1 hne
  refine ⟨g, o, e, Nat.lt_of_lt_of_le lg hb.size, fun i p hp => ?_⟩
  exact (hb.cell (p := ⟨g, o + i, none⟩) (Nat.lt_of_lt_of_le lg hB)).trans (hc i p hp), fun p hp => (h.2 p hp).below hb hB⟩
end Go.Proofs.YtkihfkcmcdiajaaGreatDoor.T

namespace Go.Proofs.YtkihfkcmcdiajaaGreatDoor.N
open Go.RowKit
theorem pa_tx {s : ByteArray} {ns : List Nd} (h : paR s = .inl [(⟨#[]⟩, ns)]) : ∀ n ∈ ns, n.tx.size ≤ 65536 := by
  obtain ⟨l, ns', hl, h1, h2, h3, h4⟩ := paR_ok h
  have e1 : ns' = ns := by
    injection h1 with h5 h6
    injection h5 with h7 h8
    exact h8.symm
  subst e1
  exact ex_tx (okE_of hl) h2
theorem jn_ck {n : Nd} {Ps : List (List Nd)} (h : T.jnE n Ps = 0) : (T.ck (Ps.flatten ++ [n])).2 = 0 := by
  unfold T.jnE at h
  by_cases h1 : T.alE n ≠ 0
  · rw [if_pos h1] at h; exact absurd h h1
  · rw [if_neg h1] at h
    by_cases h2 : (Ps.length : Int) ≠ T.ar n.op
    · rw [if_pos h2] at h; cases h
    · rw [if_neg h2] at h
      by_cases h3 : T.prt Ps ≠ 0
      · rw [if_pos h3] at h; exact absurd h h3
      · rw [if_neg h3] at h; exact h
/-- What stands between two patterns. -/
def btw (g : Bool) : ByteArray := if g then ⟨#[10, 41, 32, 47, 32, 40]⟩ else ⟨#[10, 41, 32, 40]⟩
def rwT (g : Bool) (a b : ByteArray) : ByteArray := ⟨#[40]⟩ ++ a ++ btw g ++ b ++ ⟨#[10, 41]⟩
def rwO (g : Bool) : Int := if g then 8 else 7
theorem rw_size (g : Bool) (a b : ByteArray) : (rwT g a b).size = 3 + a.size + (btw g).size + b.size := by
  unfold rwT
  rw [ByteArray.size_append, ByteArray.size_append, ByteArray.size_append, ByteArray.size_append]
  show 1 + a.size + (btw g).size + b.size + 2 = _
  omega
theorem paR_rows {a b : ByteArray} {na nb : List Nd} (g : Bool) (ha : paR a = .inl [(⟨#[]⟩, na)]) (hb : paR b = .inl [(⟨#[]⟩, nb)]) (hs : (rwT g a b).size ≤ 65536) (hj : T.jnE (nd0 (rwO g)) [na, nb] = 0) : paR (rwT g a b) = .inl [(⟨#[]⟩, na ++ nb ++ [nd0 (rwO g)])] ∨ ((∃ p, paR (rwT g a b) = .inr (p, 4)) ∧ 240 < (rwT g a b).size) := by
  obtain ⟨la, na', hla, h1, wa, _, _⟩ := paR_ok ha
  obtain ⟨lb, nb', hlb, h2, wb, _, _⟩ := paR_ok hb
  have e1 : na' = na := by
    injection h1 with h5 h6
    injection h5 with h7 h8
    exact h8.symm
  have e2 : nb' = nb := by
    injection h2 with h5 h6
    injection h5 with h7 h8
    exact h8.symm
  subst e1 e2
  have ck0 : (T.ck (na' ++ nb' ++ [nd0 (rwO g)])).2 = 0 := by
    have := jn_ck hj
    simpa using this
  have ca := (lex_chn hla).2
  have cb := (lex_chn hlb).2
  have ca0 := ca
  have cb0 := cb
  rw [← tx8_of a] at ca
  rw [← tx8_of b] at cb
  obtain ⟨X2, Y2, p, q, r, t, u, h5, h6, h7⟩ := chn_rows g (mid := (btw g).data.toList) (by cases g <;> rfl) ca cb
  have e3 : tx8 ([40] ++ (a.data.toList ++ ((btw g).data.toList ++ (b.data.toList ++ [10, 41])))) = rwT g a b := by
    unfold tx8 rwT
    apply ByteArray.ext
    rw [ByteArray.data_append, ByteArray.data_append, ByteArray.data_append, ByteArray.data_append]
    apply Array.ext'
    simp
  rw [e3] at h5
  have hl2 := lex_of_chn (by omega) h5
  have hsz := rw_size g a b
  have l1 : la.length ≤ a.size := by
    have := chn_len a la 0 (by omega) ca0
    omega
  have l2 : lb.length ≤ b.size := by
    have := chn_len b lb 0 (by omega) cb0
    omega
  have hG : (if g then [sgT 7 r] else []) = [] ∨ ∃ u, (if g then [sgT 7 r] else []) = [u] ∧ u.kd = 7 := by
    cases g
    · exact .inl rfl
    · exact .inr ⟨_, rfl, rfl⟩
  have hO : (if (if g then [sgT 7 r] else []).length = 0 then (7 : Int) else 8) = rwO g := by cases g <;> rfl
  rcases rows_who (o1 := sgT 16 p) (c1 := sgT 17 q) (o2 := sgT 16 t) (c2 := sgT 17 u) (rn := rnP) (tm := T.tmB) h6 h7 rfl rfl rfl rfl hG wa wb with w | ⟨j, w, w2⟩
  · rw [hO] at w
    exact .inl (paR_who hl2 w ck0 (ck_len ck0))
  · exact .inr ⟨paR_deep hl2 w, by rcases w2 with w2 | w2 <;> omega⟩
end Go.Proofs.YtkihfkcmcdiajaaGreatDoor.N
