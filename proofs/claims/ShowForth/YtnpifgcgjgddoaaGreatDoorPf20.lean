/- ShowForth holds of every text: what is read of it as a pattern is told as a text that is read as the same, and is told so again, or it is too long; the laid tables are tied to the program's text. -/
import Derived.Test.YtnpifgcgjgddoaaGreatDoorPf19
namespace Go.Proofs.YtnpifgcgjgddoaaGreatDoor.N
open Go.RowKit
/-- The node by which the program asks for a name. -/
def nmN (s : ByteArray) : Nd := ⟨6, 0, s, 0, 0, 0, 0⟩
theorem ck_nm (s : ByteArray) : ((T.ck [nmN s]).2 == 0) = T.nmB s := by
  have e : (⟨#[]⟩ : ByteArray) = ByteArray.empty := rfl
  cases h : T.nmB s <;> simp [nmN, T.ck, T.ckGo, T.er, T.alE, T.fdF, T.txF, T.nuF, T.seF, T.ar, T.run, T.pt, T.mk, T.arN, T.opAt, h]
theorem rd_row (w : World) (L : List Nd) (h0 : L.length ≤ 2048) (c : Array Value) (hc : c.toList = T.ndc L) : T.RdN (w.alloc (.cells c 51)) (some ⟨w.heap.size, 0, none⟩) L := fun _ => by
  refine ⟨w.heap.size, 0, rfl, by rw [World.size_alloc]; omega, ?_⟩
  refine T.own_ndl (B := w.heap.size) (n := L.length) (cap := L.length) (xs := []) ?_
  rw [List.append_nil]
  have hl := T.ndc_len L
  exact ⟨hl, .inr ⟨w.heap.size, L.length, c, rfl, Nat.le_refl _, heap_alloc_new w _, Nat.le_refl _, by unfold maxLen; omega, by rw [← Array.length_toList, hc]; exact hl, by rw [hc]; exact List.take_of_length_le (by omega)⟩⟩
set_option maxRecDepth 100000 in
set_option maxHeartbeats 4000000 in
theorem isName_any (s : ByteArray) (hs : s.size ≤ 140737488355328) (W : World) : Calls Tryz.prog 58 #[.string s] W fun e W' => e = .returned (.bool (T.nmB s)) ∧ Below W.heap.size W W' := by
  have HC : Hid (∀ _ : Unit, Calls Tryz.prog 25 #[.slice (some ⟨W.heap.size, 0, none⟩) 1 1] (W.alloc (.cells #[.int .i64 6, .int .i64 0, .string s, .int .u64 0, .int .u64 0, .int .u64 0, .int .u64 0] 51)) fun e w' => e = .returned (.tuple #[.int .i64 (T.ck [nmN s]).1, .int .i64 (T.ck [nmN s]).2]) ∧ Below (W.alloc (.cells #[.int .i64 6, .int .i64 0, .string s, .int .u64 0, .int .u64 0, .int .u64 0, .int .u64 0] 51)).heap.size (W.alloc (.cells #[.int .i64 6, .int .i64 0, .string s, .int .u64 0, .int .u64 0, .int .u64 0, .int .u64 0] 51)) w') := fun _ =>
    T.check_any [nmN s] (some ⟨W.heap.size, 0, none⟩) 1 (by show 1 ≤ _; omega) (by intro n hn; rw [List.mem_singleton.1 hn]; exact hs) _ (rd_row W [nmN s] (by show 1 ≤ _; omega) _ rfl)
  have HE := (show Hid (((T.ck [nmN s]).2 == 0) = T.nmB s) from ck_nm s)
  have HB := (show Hid (Below W.heap.size W (W.alloc (.cells #[.int .i64 6, .int .i64 0, .string s, .int .u64 0, .int .u64 0, .int .u64 0, .int .u64 0] 51))) from below_box _ _)
  clear hs
  generalize (T.ck [nmN s]).2 = cc at *
  generalize ((T.ck [nmN s]).1 : Int) = c1 at *
  generalize T.nmB s = nb at *
  go_enter Tryz.func58, Tryz.ntmps58
  go_wp2_with fail
  refine (HC.out ()).mono ?_
  rintro e w1 ⟨rfl, b1⟩
  have HB1 := (show Hid (Below W.heap.size W w1) from HB.out.trans (b1.mono HB.out.size))
  clear HC b1 HB
  go_wp2_with fail
  go_ret
  exact ⟨by rw [← HE.out]; rfl, HB1.out⟩
/-- What is wrong with a grammar that is told. -/
def wrGo (len : Nat) : Nat → List (ByteArray × List Nd) → Int
  | _, [] => 0
  | nodes, g :: r => if ¬ (g.1.size = 0 ∧ len = 1) ∧ T.nmB g.1 = false then 6 else if (T.ck g.2).2 ≠ 0 then (T.ck g.2).2 else if 2048 < nodes + g.2.length then 2 else wrGo len (nodes + g.2.length) r
def wrR (gs : List (ByteArray × List Nd)) : Int := if gs.length = 0 then 3 else if 200 < gs.length then 2 else wrGo gs.length 0 gs
/-- The first rules' nodes together. -/
def ndS (gs : List (ByteArray × List Nd)) : Nat → Nat
  | 0 => 0
  | k + 1 => match gs[k]? with
    | some g => ndS gs k + g.2.length
    | none => ndS gs k
theorem ndS_succ {gs : List (ByteArray × List Nd)} {k : Nat} {g : ByteArray × List Nd} (h : gs[k]? = some g) : ndS gs (k + 1) = ndS gs k + g.2.length := by rw [ndS, h]
/-- A slice of rules, read. -/
def GrD (W : World) (A : Option Addr) (gs : List (ByteArray × List Nd)) : Prop := ∀ (k : Nat) g, gs[k]? = some g → ∃ b o A2 c2, A = some ⟨b, o, none⟩ ∧ b < W.heap.size ∧ W.cell? ⟨b, o + k * 2, none⟩ = some (.string g.1) ∧ W.cell? ⟨b, o + k * 2 + 1, none⟩ = some (.slice A2 g.2.length c2) ∧ T.RdN W A2 g.2
theorem GrD.later {W W' : World} {A : Option Addr} {gs : List (ByteArray × List Nd)} (h : GrD W A gs) (hb : Below W.heap.size W W') : GrD W' A gs := fun k g hg => by
  obtain ⟨b, o, A2, c2, h1, h2, h3, h4, h5⟩ := h k g hg
  exact ⟨b, o, A2, c2, h1, Nat.lt_of_lt_of_le h2 hb.size, (hb.cell (p := ⟨b, o + k * 2, none⟩) h2).trans h3, (hb.cell (p := ⟨b, o + k * 2 + 1, none⟩) h2).trans h4, h5.below hb (Nat.le_refl _)⟩
/-- A rule in a box of its own. -/
structure RB (W : World) (b : Nat) (s : ByteArray) (v : Value) : Prop where
  heap : W.heap[b]? = some (.cells #[.string s, v] 73 (0, 0))
theorem RB.lt {W : World} {b : Nat} {s : ByteArray} {v : Value} (h : RB W b s v) : b < W.heap.size := (Array.getElem?_eq_some_iff.1 h.heap).1
theorem RB.c0 {W : World} {b : Nat} {s : ByteArray} {v : Value} (h : RB W b s v) : W.cell? ⟨b, 0, none⟩ = some (.string s) := by rw [cell_of_row W b 0 _ 73 (0, 0) h.heap]; rfl
theorem RB.c1 {W : World} {b : Nat} {s : ByteArray} {v : Value} (h : RB W b s v) : W.cell? ⟨b, 1, none⟩ = some v := by rw [cell_of_row W b 1 _ 73 (0, 0) h.heap]; rfl
theorem RB.same {W W' : World} {b : Nat} {s : ByteArray} {v : Value} (h : RB W b s v) (hb : W'.heap[b]? = W.heap[b]?) : RB W' b s v := ⟨hb.trans h.heap⟩
theorem RB.later {W W' : World} {b : Nat} {s : ByteArray} {v : Value} (h : RB W b s v) (hb : Below W.heap.size W W') : RB W' b s v := h.same (hb.block b h.lt)
set_option maxRecDepth 100000 in
set_option maxHeartbeats 16000000 in
theorem checkRules_any (gs : List (ByteArray × List Nd)) (A : Option Addr) (c : Nat) (hl : gs.length ≤ 140737488355328) (hT : ∀ g ∈ gs, g.1.size ≤ 140737488355328 ∧ g.2.length ≤ 140737488355328 ∧ ∀ n ∈ g.2, n.tx.size ≤ 140737488355328) (w : World) (hp : GrD w A gs) :
    Calls Tryz.prog 35 #[.slice A gs.length c] w fun e w' => e = .returned (.int .i64 (wrR gs)) ∧ Below w.heap.size w w' := by
  by_cases h0 : gs.length = 0
  · have HE := (show Hid (wrR gs = 3) from by show wrR gs = 3; unfold wrR; rw [if_pos h0])
    have t0 : ((gs.length : Int) == 0) = true := beq_iff_eq.2 (by omega)
    clear h0 hp hT
    go_enter Tryz.func35, Tryz.ntmps35
    go_wp2_with fail
    go_ret
    exact ⟨by rw [HE.out]; rfl, Below.refl _ _⟩
  have t0 : ((gs.length : Int) == 0) = false := beq_eq_false_iff_ne.2 (by omega)
  by_cases h2 : 200 < gs.length
  · have HE := (show Hid (wrR gs = 2) from by show wrR gs = 2; unfold wrR; rw [if_neg h0, if_pos h2])
    have t2 : (200 : Int) < (gs.length : Int) := by omega
    clear h0 hp hT h2
    go_enter Tryz.func35, Tryz.ntmps35
    go_wp2_with fail
    go_ret
    exact ⟨by rw [HE.out]; rfl, Below.refl _ _⟩
  have t2 : ¬ (200 : Int) < (gs.length : Int) := by omega
  have HE := (show Hid (wrR gs = wrGo gs.length (ndS gs 0) (gs.drop 0)) from by show wrR gs = _; unfold wrR; rw [if_neg h0, if_neg h2]; rfl)
  have HP := (show Hid (GrD w A gs) from hp)
  have HG := (show Hid (∀ k, k < gs.length → ∃ g, gs[k]? = some g ∧ g.1.size ≤ 140737488355328 ∧ g.2.length ≤ 140737488355328 ∧ (∀ n ∈ g.2, n.tx.size ≤ 140737488355328) ∧ gs.drop k = g :: gs.drop (k + 1)) from fun k hk => ⟨_, List.getElem?_eq_getElem hk, (hT _ (List.getElem_mem hk)).1, (hT _ (List.getElem_mem hk)).2.1, (hT _ (List.getElem_mem hk)).2.2, List.drop_eq_getElem_cons hk⟩)
  have HN := (show Hid (¬ gs.length = 0) from h0)
  clear h0 hp hT h2
  go_enter Tryz.func35, Tryz.ntmps35
  go_wp2_with fail
  go_loopw [3, 17] (fun v t wr => ∃ k : Nat, k ≤ gs.length ∧ t = .int .i64 k ∧ v = .int .i64 (ndS gs k) ∧ Hid (ndS gs k ≤ 2048) ∧ Hid (wrR gs = wrGo gs.length (ndS gs k) (gs.drop k)) ∧ Hid (Below w.heap.size w wr)) (fun _ t _ => gs.length - (intOf t).toNat)
  case atStart => exact ⟨0, by omega, by go_num, by go_num, Nat.zero_le _, HE, Below.refl _ _⟩
  case round =>
    obtain ⟨k, hk, rfl, rfl, HQ, HX, HW⟩ := hrel
    clear HE
    by_cases hlt : k < gs.length
    · obtain ⟨g, hg, s1, s2, s3, hd⟩ := HG.out k hlt
      obtain ⟨b, o, A2, c2, rfl, lb, x0, x1, r2⟩ := HP.out k g hg
      have x0' := (HW.out.cell (p := ⟨b, o + k * 2, none⟩) lb).trans x0
      have x1' := (HW.out.cell (p := ⟨b, o + k * 2 + 1, none⟩) lb).trans x1
      clear x0 x1
      have z0 : (0 : Int) ≤ (k : Int) := by omega
      have z1 : (k : Int) < (gs.length : Int) := by omega
      have HR := (show Hid (RB (wr.alloc (.cells #[.string g.1, .slice A2 g.2.length c2] 73)) wr.heap.size g.1 (.slice A2 g.2.length c2)) from ⟨heap_alloc_new wr _⟩)
      have HW1 := (show Hid (Below w.heap.size w (wr.alloc (.cells #[.string g.1, .slice A2 g.2.length c2] 73))) from HW.out.alloc HW.out.size _)
      have HNm : Hid (∀ W, Calls Tryz.prog 58 #[.string g.1] W fun e W' => e = .returned (.bool (T.nmB g.1)) ∧ Below W.heap.size W W') := fun W => isName_any g.1 s1 W
      have HCk : Hid (∀ W, Below w.heap.size w W → Calls Tryz.prog 25 #[.slice A2 g.2.length c2] W fun e w' => e = .returned (.tuple #[.int .i64 (T.ck g.2).1, .int .i64 (T.ck g.2).2]) ∧ Below W.heap.size W w') := fun W hW => T.check_any g.2 A2 c2 s2 s3 W (r2.below hW (Nat.le_refl _))
      have hgk := hg
      have HSz := (show Hid (g.2.length ≤ 140737488355328) from s2)
      clear hg r2 s1 s2 s3 HW
      by_cases hs0 : g.1.size = 0
      · have te : (g.1.toList == []) = true := by
          have e := T.emp_t hs0
          rw [List.isEmpty_iff] at e
          rw [e]; rfl
        have te2 := T.emp_t hs0
        by_cases hl1 : gs.length = 1
        · have tl : ((gs.length : Int) == 1) = true := beq_iff_eq.2 (by omega)
          have HWy := HW1
          have HBy := HW1
          have HRy := HR
          have HU := (show Hid (wrR gs = if (T.ck g.2).2 ≠ 0 then (T.ck g.2).2 else if 2048 < ndS gs k + g.2.length then 2 else wrGo gs.length (ndS gs k + g.2.length) (gs.drop (k + 1))) from by show wrR gs = _; rw [HX.out, hd, wrGo, if_neg (by rintro ⟨q, _⟩; exact q ⟨hs0, hl1⟩)])
          have HV := (show Hid ((T.ck g.2).2 = 0 → wrR gs = if 2048 < ndS gs k + g.2.length then 2 else wrGo gs.length (ndS gs k + g.2.length) (gs.drop (k + 1))) from fun h => by rw [HU.out, if_neg (by rw [h]; simp)])
          clear hl1 hs0
          -- the body is checked
          by_cases hc : (T.ck g.2).2 = 0
          · have HV2 := (show Hid _ from HV.out hc)
            have tc : ((T.ck g.2).2 != 0) = false := by rw [hc]; rfl
            have hg3 : g.2.length ≤ 2048 := ck_len hc
            have hq := HQ.out
            generalize hcc : (T.ck g.2).2 = cc at *
            clear hcc
            by_cases hn : 2048 < ndS gs k + g.2.length
            · have HF := (show Hid (wrR gs = 2) from by show wrR gs = 2; rw [HV2.out, if_pos hn])
              have tn : (2048 : Int) < (ndS gs k : Int) + (g.2.length : Int) := by omega
              clear HV HV2 HU HX HG HP HQ hn
              have y0 := HRy.out.c0
              have y1 := HRy.out.c1
              go_wp2_with fail
              refine (HCk.out _ HBy.out).mono ?_
              rintro e w3 ⟨rfl, b3⟩
              have HW3 := (show Hid (Below w.heap.size w w3) from HWy.out.trans (b3.mono HWy.out.size))
              have x1 := (HRy.out.later b3).c1
              clear HCk b3 HBy HRy
              go_wp2_with fail
              go_ret
              exact ⟨by rw [HF.out]; rfl, HW3.out⟩
            · have HF := (show Hid (wrR gs = wrGo gs.length (ndS gs (k + 1)) (gs.drop (k + 1))) from by show wrR gs = _; rw [HV2.out, if_neg hn, ndS_succ hgk])
              have tn : ¬ (2048 : Int) < (ndS gs k : Int) + (g.2.length : Int) := by omega
              have HQ2 := (show Hid (ndS gs (k + 1) ≤ 2048) from by show ndS gs (k + 1) ≤ 2048; rw [ndS_succ hgk]; omega)
              have HS := (show Hid ((ndS gs (k + 1) : Int) = (ndS gs k : Int) + (g.2.length : Int)) from by show (ndS gs (k + 1) : Int) = _; rw [ndS_succ hgk]; omega)
              clear HV HV2 HU HX HP HQ hn hgk
              have y0 := HRy.out.c0
              have y1 := HRy.out.c1
              go_wp2_with fail
              refine (HCk.out _ HBy.out).mono ?_
              rintro e w3 ⟨rfl, b3⟩
              have HW3 := (show Hid (Below w.heap.size w w3) from HWy.out.trans (b3.mono HWy.out.size))
              have x1 := (HRy.out.later b3).c1
              clear HCk b3 HBy HRy
              go_wp2_with fail
              go_roundw
              case rel => exact ⟨k + 1, by omega, by go_num, by rw [HS.out], HQ2, HF, HW3⟩
              case measure => simp [intOf]; omega
          · have tc : ((T.ck g.2).2 != 0) = true := by rw [bne, beq_eq_false_iff_ne.2 hc]; rfl
            have HF := (show Hid (wrR gs = (T.ck g.2).2) from by show wrR gs = _; rw [HU.out, if_pos hc])
            clear HV HU HX HG HP HQ hc
            generalize hcc : (T.ck g.2).2 = cc at *
            clear hcc
            have y0 := HRy.out.c0
            have y1 := HRy.out.c1
            go_wp2_with fail
            refine (HCk.out _ HBy.out).mono ?_
            rintro e w3 ⟨rfl, b3⟩
            have HW3 := (show Hid (Below w.heap.size w w3) from HWy.out.trans (b3.mono HWy.out.size))
            clear HCk b3 HBy HRy
            go_wp2_with fail
            go_ret
            exact ⟨by rw [HF.out]; rfl, HW3.out⟩
        · have tl : ((gs.length : Int) == 1) = false := beq_eq_false_iff_ne.2 (by omega)
          have hnb : T.nmB g.1 = false := T.nmB_f (fun h => by have := h.1; omega)
          have HF := (show Hid (wrR gs = 6) from by show wrR gs = 6; rw [HX.out, hd, wrGo, if_pos ⟨fun q => hl1 q.2, hnb⟩])
          rw [hnb] at HNm
          clear HX HG HP HQ hl1 hs0 hd hgk HCk
          go_wp2_with fail
          refine (HNm.out _).mono ?_
          rintro e w3 ⟨rfl, b3⟩
          have HW3 := (show Hid (Below w.heap.size w w3) from HW1.out.trans (b3.mono HW1.out.size))
          clear HNm b3 HR HW1
          go_wp2_with fail
          go_ret
          exact ⟨by rw [HF.out]; rfl, HW3.out⟩
      · have te : (g.1.toList == []) = false := by
          have e := T.emp_f hs0
          cases hl : g.1.toList with
          | nil => rw [hl] at e; cases e
          | cons x r => rfl
        have te2 := T.emp_f hs0
        cases hnb : T.nmB g.1 with
        | false =>
          have HF := (show Hid (wrR gs = 6) from by show wrR gs = 6; rw [HX.out, hd, wrGo, if_pos ⟨fun q => hs0 q.1, hnb⟩])
          rw [hnb] at HNm
          clear HX HG HP HQ hs0 hd hgk HCk hnb
          go_wp2_with fail
          refine (HNm.out _).mono ?_
          rintro e w3 ⟨rfl, b3⟩
          have HW3 := (show Hid (Below w.heap.size w w3) from HW1.out.trans (b3.mono HW1.out.size))
          clear HNm b3 HR HW1
          go_wp2_with fail
          go_ret
          exact ⟨by rw [HF.out]; rfl, HW3.out⟩
        | true =>
          rw [hnb] at HNm
          go_wp2_with fail
          refine (HNm.out _).mono ?_
          rintro e w2 ⟨rfl, b2⟩
          have HWy := (show Hid (Below w.heap.size w w2) from HW1.out.trans (b2.mono HW1.out.size))
          have HBy := HWy
          have HRy := (show Hid (RB w2 wr.heap.size g.1 (.slice A2 g.2.length c2)) from HR.out.later b2)
          clear HNm b2 HR HW1
          have HU := (show Hid (wrR gs = if (T.ck g.2).2 ≠ 0 then (T.ck g.2).2 else if 2048 < ndS gs k + g.2.length then 2 else wrGo gs.length (ndS gs k + g.2.length) (gs.drop (k + 1))) from by show wrR gs = _; rw [HX.out, hd, wrGo, if_neg (by rintro ⟨_, q⟩; rw [hnb] at q; cases q)])
          have HV := (show Hid ((T.ck g.2).2 = 0 → wrR gs = if 2048 < ndS gs k + g.2.length then 2 else wrGo gs.length (ndS gs k + g.2.length) (gs.drop (k + 1))) from fun h => by rw [HU.out, if_neg (by rw [h]; simp)])
          -- the body is checked
          by_cases hc : (T.ck g.2).2 = 0
          · have HV2 := (show Hid _ from HV.out hc)
            have tc : ((T.ck g.2).2 != 0) = false := by rw [hc]; rfl
            have hg3 : g.2.length ≤ 2048 := ck_len hc
            have hq := HQ.out
            generalize hcc : (T.ck g.2).2 = cc at *
            clear hcc
            by_cases hn : 2048 < ndS gs k + g.2.length
            · have HF := (show Hid (wrR gs = 2) from by show wrR gs = 2; rw [HV2.out, if_pos hn])
              have tn : (2048 : Int) < (ndS gs k : Int) + (g.2.length : Int) := by omega
              clear HV HV2 HU HX HG HP HQ hn
              have y1 := HRy.out.c1
              go_wp2_with fail
              refine (HCk.out _ HBy.out).mono ?_
              rintro e w3 ⟨rfl, b3⟩
              have HW3 := (show Hid (Below w.heap.size w w3) from HWy.out.trans (b3.mono HWy.out.size))
              have x1 := (HRy.out.later b3).c1
              clear HCk b3 HBy HRy
              go_wp2_with fail
              go_ret
              exact ⟨by rw [HF.out]; rfl, HW3.out⟩
            · have HF := (show Hid (wrR gs = wrGo gs.length (ndS gs (k + 1)) (gs.drop (k + 1))) from by show wrR gs = _; rw [HV2.out, if_neg hn, ndS_succ hgk])
              have tn : ¬ (2048 : Int) < (ndS gs k : Int) + (g.2.length : Int) := by omega
              have HQ2 := (show Hid (ndS gs (k + 1) ≤ 2048) from by show ndS gs (k + 1) ≤ 2048; rw [ndS_succ hgk]; omega)
              have HS := (show Hid ((ndS gs (k + 1) : Int) = (ndS gs k : Int) + (g.2.length : Int)) from by show (ndS gs (k + 1) : Int) = _; rw [ndS_succ hgk]; omega)
              clear HV HV2 HU HX HP HQ hn hgk
              have y1 := HRy.out.c1
              go_wp2_with fail
              refine (HCk.out _ HBy.out).mono ?_
              rintro e w3 ⟨rfl, b3⟩
              have HW3 := (show Hid (Below w.heap.size w w3) from HWy.out.trans (b3.mono HWy.out.size))
              have x1 := (HRy.out.later b3).c1
              clear HCk b3 HBy HRy
              go_wp2_with fail
              go_roundw
              case rel => exact ⟨k + 1, by omega, by go_num, by rw [HS.out], HQ2, HF, HW3⟩
              case measure => simp [intOf]; omega
          · have tc : ((T.ck g.2).2 != 0) = true := by rw [bne, beq_eq_false_iff_ne.2 hc]; rfl
            have HF := (show Hid (wrR gs = (T.ck g.2).2) from by show wrR gs = _; rw [HU.out, if_pos hc])
            clear HV HU HX HG HP HQ hc
            generalize hcc : (T.ck g.2).2 = cc at *
            clear hcc
            have y1 := HRy.out.c1
            go_wp2_with fail
            refine (HCk.out _ HBy.out).mono ?_
            rintro e w3 ⟨rfl, b3⟩
            have HW3 := (show Hid (Below w.heap.size w w3) from HWy.out.trans (b3.mono HWy.out.size))
            clear HCk b3 HBy HRy
            go_wp2_with fail
            go_ret
            exact ⟨by rw [HF.out]; rfl, HW3.out⟩
    · obtain rfl : k = gs.length := by omega
      have HF := (show Hid (wrR gs = 0) from by show wrR gs = 0; rw [HX.out, List.drop_length]; rfl)
      clear HG HP HX
      go_wp2_with fail
      go_ret
      exact ⟨by rw [HF.out]; rfl, HW.out⟩
theorem wrGo_ok {len : Nat} : ∀ (gs : List (ByteArray × List Nd)) (m : Nat), m ≤ 2048 → wrGo len m gs = 0 → (∀ g ∈ gs, (T.ck g.2).2 = 0 ∧ (T.nmB g.1 = true ∨ (g.1.size = 0 ∧ len = 1))) ∧ m + (gs.map fun g => g.2.length).sum ≤ 2048 := by
  intro gs
  induction gs with
  | nil => intro m hm _; exact ⟨(fun g hg => by cases hg), by simpa using hm⟩
  | cons g r ih =>
    intro m hm h
    rw [wrGo] at h
    by_cases q1 : ¬ (g.1.size = 0 ∧ len = 1) ∧ T.nmB g.1 = false
    · rw [if_pos q1] at h; cases h
    rw [if_neg q1] at h
    by_cases q2 : (T.ck g.2).2 ≠ 0
    · rw [if_pos q2] at h; exact absurd h q2
    rw [if_neg q2] at h
    by_cases q3 : 2048 < m + g.2.length
    · rw [if_pos q3] at h; cases h
    rw [if_neg q3] at h
    obtain ⟨h1, h2⟩ := ih (m + g.2.length) (by omega) h
    refine ⟨fun x hx => ?_, by rw [List.map_cons, List.sum_cons]; omega⟩
    rcases List.mem_cons.1 hx with rfl | hx
    · refine ⟨by by_cases z : (T.ck x.2).2 = 0; exact z; exact absurd z q2, ?_⟩
      cases hb : T.nmB x.1 with
      | true => exact .inl rfl
      | false =>
        by_cases z : x.1.size = 0 ∧ len = 1
        · exact .inr z
        · exact absurd ⟨z, hb⟩ q1
    · exact h1 x hx
theorem wr_ok {gs : List (ByteArray × List Nd)} (h : wrR gs = 0) : 1 ≤ gs.length ∧ gs.length ≤ 200 ∧ (∀ g ∈ gs, (T.ck g.2).2 = 0 ∧ (T.nmB g.1 = true ∨ (g.1.size = 0 ∧ gs.length = 1))) ∧ (gs.map fun g => g.2.length).sum ≤ 2048 := by
  unfold wrR at h
  by_cases q1 : gs.length = 0
  · rw [if_pos q1] at h; cases h
  rw [if_neg q1] at h
  by_cases q2 : 200 < gs.length
  · rw [if_pos q2] at h; cases h
  rw [if_neg q2] at h
  obtain ⟨h1, h2⟩ := wrGo_ok gs 0 (by omega) h
  exact ⟨by omega, by omega, h1, by omega⟩
theorem shI_len {L : List Nd} (hr : T.Rt L) : (itT (shI L)).length ≤ 10000 * L.length := by
  have h := sh_tot hr.each L.length (Nat.le_refl _)
  unfold shI
  cases hs : shK L L.length with
  | nil => exact Nat.zero_le _
  | cons x st =>
    rw [hs, totI_cons] at h
    show (itT x.2).length ≤ _
    omega
theorem ln_text (g : ByteArray × List Nd) : itT (lnI g) = (if g.1.size = 0 then [] else g.1.data.toList ++ [32, 60, 45, 32]) ++ itT (shI g.2) := by
  unfold lnI
  rw [itT_app]
  by_cases h : g.1.size = 0
  · rw [if_pos h, if_pos h]; rfl
  · rw [if_neg h, if_neg h]
    rfl
theorem nm_len {s : ByteArray} (h : T.nmB s = true) : s.size ≤ 32 := (isNm_len (nm_of h)).2
theorem gr_len : ∀ (gs : List (ByteArray × List Nd)), (∀ g ∈ gs, (T.ck g.2).2 = 0 ∧ g.1.size ≤ 32) → (grT gs).length ≤ 10000 * (gs.map fun g => g.2.length).sum + 40 * gs.length := by
  intro gs
  induction gs with
  | nil => intro _; exact Nat.zero_le _
  | cons g r ih =>
    intro h
    have h1 := ih (fun x hx => h x (List.mem_cons_of_mem _ hx))
    obtain ⟨h2, h3⟩ := h g List.mem_cons_self
    have h4 := shI_len (T.rt_of h2)
    have e : grT (g :: r) = (itT (lnI g) ++ [10]) ++ grT r := rfl
    rw [e, List.length_append, List.length_append, ln_text, List.length_append, List.map_cons, List.sum_cons]
    have h5 : (if g.1.size = 0 then [] else g.1.data.toList ++ [32, 60, 45, 32] : List UInt8).length ≤ 36 := by
      split
      · exact Nat.zero_le _
      · rw [List.length_append, dlen]; show _ + 4 ≤ _; omega
    have e3 : (g :: r).length = r.length + 1 := rfl
    show _ + 1 + _ ≤ _
    omega
theorem grT_app (a b : List (ByteArray × List Nd)) : grT (a ++ b) = grT a ++ grT b := List.flatMap_append
theorem grT_succ {gs : List (ByteArray × List Nd)} {k : Nat} {g : ByteArray × List Nd} (h : gs[k]? = some g) : grT (gs.take (k + 1)) = grT (gs.take k) ++ (itT (lnI g) ++ [10]) := by
  rw [List.take_add_one, h, grT_app]
  show _ ++ ((itT (lnI g) ++ [10]) ++ []) = _
  rw [List.append_nil]
theorem grT_take (gs : List (ByteArray × List Nd)) (k : Nat) : (grT (gs.take k)).length ≤ (grT gs).length := by
  have h := grT_app (gs.take k) (gs.drop k)
  rw [List.take_append_drop] at h
  rw [h, List.length_append]
  omega
/-- What show's Grammar answers. -/
def grR (gs : List (ByteArray × List Nd)) : ByteArray × Int := if wrR gs = 0 then lnR (grT gs) else (⟨#[]⟩, wrR gs)
end Go.Proofs.YtnpifgcgjgddoaaGreatDoor.N

namespace Go.Proofs.YtnpifgcgjgddoaaGreatDoor.N
open Go.RowKit
set_option maxRecDepth 100000 in
set_option maxHeartbeats 16000000 in
theorem grammar_any (gs : List (ByteArray × List Nd)) (A : Option Addr) (c : Nat) (hl : gs.length ≤ 140737488355328) (hT : ∀ g ∈ gs, g.1.size ≤ 140737488355328 ∧ g.2.length ≤ 140737488355328 ∧ ∀ n ∈ g.2, n.tx.size ≤ 140737488355328) (hw : ∀ g ∈ gs, ∀ n ∈ g.2, NdW n) (w : World) (hp : GrD w A gs) :
    Calls Tryz.prog 16 #[.agg #[.slice A gs.length c]] w fun e w' => e = .returned (.tuple #[.string (grR gs).1, .int .i64 (grR gs).2]) ∧ Below w.heap.size w w' := by
  have HX := (show Hid (GX (w.alloc (.cells #[.slice A gs.length c] 33)) w.heap.size (.slice A gs.length c)) from GX.mk (heap_alloc_new w _))
  have HB0 := (show Hid (Below w.heap.size w (w.alloc (.cells #[.slice A gs.length c] 33))) from below_box _ _)
  have HC : Hid (∀ _ : Unit, Calls Tryz.prog 35 #[.slice A gs.length c] (w.alloc (.cells #[.slice A gs.length c] 33)) fun e w' => e = .returned (.int .i64 (wrR gs)) ∧ Below (w.alloc (.cells #[.slice A gs.length c] 33)).heap.size (w.alloc (.cells #[.slice A gs.length c] 33)) w') := fun _ => checkRules_any gs A c hl hT _ (hp.later (below_box _ _))
  by_cases hc : wrR gs = 0
  · have t0 : (wrR gs != 0) = false := by rw [hc]; rfl
    have HE := (show Hid (grR gs = lnR (grT gs)) from by show grR gs = _; unfold grR; rw [if_pos hc])
    obtain ⟨g1, g2, g3, g4⟩ := wr_ok hc
    have hmf : ∀ (fn : Fn) (first cap : Array Value) (w : World), (Instr.makeFunc fn first cap).run Tryz.prog w = .ok (.func fn first cap) w := fun _ _ _ _ => rfl
    have hsz : ∀ g ∈ gs, (T.ck g.2).2 = 0 ∧ g.1.size ≤ 32 := fun g hg => by
      obtain ⟨q1, q2⟩ := g3 g hg
      refine ⟨q1, ?_⟩
      rcases q2 with q | q
      · exact nm_len q
      · omega
    have hgl := gr_len gs hsz
    have HLe := (show Hid ((grT gs).length ≤ 20490000) from by show (grT gs).length ≤ 20490000; omega)
    have HNe := (show Hid (grT gs ≠ []) from by
      show grT gs ≠ []
      cases gs with
      | nil => simp at g1
      | cons g r =>
        intro e
        have : ((itT (lnI g) ++ [10]) ++ grT r : List UInt8) = [] := e
        simp at this)
    have HP := (show Hid (GrD w A gs) from hp)
    have HG := (show Hid (∀ k, k < gs.length → ∃ g, gs[k]? = some g ∧ T.Rt g.2 ∧ (∀ n ∈ g.2, NdW n) ∧ g.1.size ≤ 32) from fun k hk => ⟨_, List.getElem?_eq_getElem hk, T.rt_of (hsz _ (List.getElem_mem hk)).1, hw _ (List.getElem_mem hk), (hsz _ (List.getElem_mem hk)).2⟩)
    have HTk := (show Hid (gs.take gs.length = gs) from List.take_length)
    clear hc hp hT hw hsz hgl g1 g3 g4
    generalize wrR gs = wv at *
    have y0 := HX.out.cl
    go_enter Tryz.func16, Tryz.ntmps16
    go_wp2_with fail
    refine (HC.out ()).mono ?_
    rintro e w1 ⟨rfl, b1⟩
    have HB1 := (show Hid (Below w.heap.size w w1) from HB0.out.trans (b1.mono HB0.out.size))
    have HX1 := (show Hid (GX w1 w.heap.size (.slice A gs.length c)) from HX.out.below b1)
    have hs1 := HB1.out.size
    have hx1 := HX1.out.lt
    have HF := (show Hid (Lib.IsBuilder 59 5 w1.heap.size w1.heap.size (Lib.byteCells []) (w1.alloc (.cells #[.pointer none, .slice none 0 0] 59))) from Lib.fresh_isBuilder 59 5 w1)
    have HX2 := (show Hid (GX (w1.alloc (.cells #[.pointer none, .slice none 0 0] 59)) w.heap.size (.slice A gs.length c)) from HX1.out.below (below_box _ _))
    have HD := (show Hid (GrD w A gs ∧ Below w.heap.size w (w1.alloc (.cells #[.pointer none, .slice none 0 0] 59))) from ⟨HP.out, HB1.out.alloc hs1 _⟩)
    clear b1 HC HB0 HX HX1 HP y0
    have y1 := HX2.out.cl
    go_wp2_with fail
    generalize hpb : w1.heap.size = pb at *
    generalize w1.alloc (.cells #[.pointer none, .slice none 0 0] 59) = w2 at *
    have H0 := (show Hid (Pg pb w2 w2 (grT (gs.take 0))) from Pg.start HF.out)
    go_loopw [17] (fun t wr => ∃ k : Nat, k ≤ gs.length ∧ t = .int .i64 k ∧ Hid (Pg pb w2 wr (grT (gs.take k)))) (fun t _ => gs.length - (intOf t).toNat)
    case atStart => exact ⟨0, by omega, by go_num, H0⟩
    case round =>
      obtain ⟨k, hk, rfl, HW⟩ := hrel
      clear H0 HF y1
      by_cases hlt : k < gs.length
      · obtain ⟨g, hg, hrt, hwd, hn32⟩ := HG.out k hlt
        obtain ⟨b, o, A2, c2, rfl, lb, x0, x1, r2⟩ := HD.out.1 k g hg
        obtain ⟨gp, op, rfl, lp, nd⟩ := r2 (by rintro e; have := rt_pos hrt; rw [e] at this; simp at this)
        have lgp : gp < pb := by omega
        have key : ∀ b, b < w.heap.size → wr.heap[b]? = w.heap[b]? := fun b hb => (HW.out.bl.block b (by omega)).trans (HD.out.2.block b hb)
        have x0' : wr.cell? ⟨b, o + k * 2, none⟩ = some (.string g.1) := (World.cell?_of_block (a := ⟨b, o + k * 2, none⟩) (key b lb)).trans x0
        have x1' : wr.cell? ⟨b, o + k * 2 + 1, none⟩ = some (.slice (some ⟨gp, op, none⟩) g.2.length c2) := (World.cell?_of_block (a := ⟨b, o + k * 2 + 1, none⟩) (key b lb)).trans x1
        have HNd := (show Hid (T.NdL w2 gp op g.2) from nd.same (HD.out.2.block gp lp))
        have HRt := (show Hid (T.Rt g.2) from hrt)
        have HWd := (show Hid (∀ n ∈ g.2, NdW n) from hwd)
        have hle := grT_take gs (k + 1)
        rw [grT_succ hg, List.length_append, List.length_append, ln_text, List.length_append] at hle
        have hle2 := HLe.out
        have HGs := (show Hid (grT (gs.take (k + 1)) = grT (gs.take k) ++ (itT (lnI g) ++ [10])) from grT_succ hg)
        have z0 : (0 : Int) ≤ (k : Int) := by omega
        have z1 : (k : Int) < (gs.length : Int) := by omega
        have hwr := pg_lt HW.out.i
        have HW3 := (show Hid (Pg pb w2 (wr.alloc (.cells #[.string g.1, .slice (some ⟨gp, op, none⟩) g.2.length c2] 73)) (grT (gs.take k))) from HW.out.later (below_box _ _))
        have HBx := (show Hid (Fx (wr.alloc (.cells #[.string g.1, .slice (some ⟨gp, op, none⟩) g.2.length c2] 73)) pb wr.heap.size #[.string g.1, .slice (some ⟨gp, op, none⟩) g.2.length c2] 73) from ⟨⟨_, heap_alloc_new wr _⟩, by omega, by decide⟩)
        clear x0 x1 key nd hg hrt hwd HG HW r2
        by_cases hs0 : g.1.size = 0
        · have te : (g.1.toList == []) = true := by
            have e := T.emp_t hs0
            rw [List.isEmpty_iff] at e
            rw [e]; rfl
          have te2 := T.emp_t hs0
          have HLn := (show Hid (itT (lnI g) = itT (shI g.2)) from by show itT (lnI g) = _; rw [ln_text, if_pos hs0]; rfl)
          rw [if_pos hs0] at hle
          have HLl := (show Hid ((grT (gs.take k)).length + ((itT (shI g.2)).length + 1) ≤ 20490000) from by show (grT (gs.take k)).length + _ ≤ _; simp only [List.length_nil, List.length_singleton] at hle; omega)
          have HPq := HW3
          clear hle hle2 hs0 HBx
          have HTe : Hid (∀ _ : Unit, Calls Tryz.prog 26 #[.slice (some ⟨gp, op, none⟩) g.2.length c2, telV pb] (wr.alloc (.cells #[.string g.1, .slice (some ⟨gp, op, none⟩) g.2.length c2] 73)) fun e w' => (∃ tb, e = .returned (.pointer (some ⟨tb, 0, none⟩)) ∧ Tl w' pb tb g.2 gp op c2) ∧ Below (wr.alloc (.cells #[.string g.1, .slice (some ⟨gp, op, none⟩) g.2.length c2] 73)).heap.size (wr.alloc (.cells #[.string g.1, .slice (some ⟨gp, op, none⟩) g.2.length c2] 73)) w') := fun _ => newTeller_any g.2 pb gp op c2 (by have := HRt.out.len; omega) HRt.out.each _ (HNd.out.same (HPq.out.bl.block gp lgp)) lgp (pg_lt HPq.out.i)
          go_wp2_with fail
          refine (HTe.out ()).mono ?_
          rintro e w5 ⟨⟨tb, rfl, ht⟩, b5⟩
          have HP5 := (show Hid (Pg pb w2 w5 (grT (gs.take k))) from HPq.out.later b5)
          have HPa : Hid (∀ _ : Unit, Calls Tryz.prog 28 #[.pointer (some ⟨tb, 0, none⟩)] w5 fun e W' => e = .returned (.tuple #[]) ∧ Pg pb w5 W' ((grT (gs.take k)) ++ itT (shI g.2))) := fun _ => pattern_any HRt.out HWd.out w5 _ ht HP5.out.i (by have := HLl.out; omega)
          clear ht b5 HTe HPq
          go_wp2_with fail
          refine (HPa.out ()).mono ?_
          rintro e w6 ⟨rfl, p6⟩
          have HP6 := (show Hid (Pg pb w2 w6 ((grT (gs.take k)) ++ itT (shI g.2))) from HP5.out.trans p6)
          clear p6 HPa HP5
          go_wp2_with fail
          refine (tell_one ⟨#[10]⟩ HP6.out.i (by rw [List.length_append]; have := HLl.out; show _ + 1 ≤ _; omega)).mono ?_
          rintro e w7 ⟨rfl, p7⟩
          have HP7 := (show Hid (Pg pb w2 w7 (grT (gs.take (k + 1)))) from by
            show Pg pb w2 w7 _
            rw [HGs.out]
            have := HP6.out.trans p7
            rw [HLn.out, ← List.append_assoc]
            exact this)
          clear p7 HP6
          go_wp2_with fail
          go_roundw
          case rel => exact ⟨k + 1, by omega, by go_num, HP7⟩
          case measure => simp [intOf]; omega
        · have te : (g.1.toList == []) = false := by
            have e := T.emp_f hs0
            cases hl : g.1.toList with
            | nil => rw [hl] at e; cases e
            | cons x r => rfl
          have te2 := T.emp_f hs0
          have HLn := (show Hid (itT (lnI g) = (g.1.data.toList ++ [32, 60, 45, 32]) ++ itT (shI g.2)) from by show itT (lnI g) = _; rw [ln_text, if_neg hs0])
          rw [if_neg hs0, List.length_append] at hle
          have HLl := (show Hid ((grT (gs.take k)).length + ((g.1.data.toList.length + 4) + ((itT (shI g.2)).length + 1)) ≤ 20490000) from by show (grT (gs.take k)).length + _ ≤ _; simp only [List.length_singleton] at hle; have e4 : ([32, 60, 45, 32] : List UInt8).length = 4 := rfl; omega)
          clear hle hle2 hs0
          have HTw : Hid (∀ _ : Unit, Calls Tryz.prog 27 #[.pointer (some ⟨pb, 0, none⟩), .slice (some ⟨wr.heap.size + 1, 0, none⟩) 2 2] ((wr.alloc (.cells #[.string g.1, .slice (some ⟨gp, op, none⟩) g.2.length c2] 73)).alloc (.cells #[.string g.1, .string ⟨#[32, 60, 45, 32]⟩] 9)) fun e W' => e = .returned (.tuple #[]) ∧ Pg pb (wr.alloc (.cells #[.string g.1, .slice (some ⟨gp, op, none⟩) g.2.length c2] 73)) W' (grT (gs.take k) ++ (g.1.data.toList ++ [32, 60, 45, 32]))) := fun _ => by
            have h := tell_two g.1 ⟨#[32, 60, 45, 32]⟩ HW3.out.i (by
              have := HLl.out
              rw [List.length_append]
              have e4 : (⟨#[32, 60, 45, 32]⟩ : ByteArray).data.toList.length = 4 := rfl
              omega)
            rw [World.size_alloc] at h
            exact h
          go_wp2_with fail
          refine (HTw.out ()).mono ?_
          rintro e w4 ⟨rfl, p4⟩
          have HPq := (show Hid (Pg pb w2 w4 (grT (gs.take k) ++ (g.1.data.toList ++ [32, 60, 45, 32]))) from HW3.out.trans p4)
          have d1 : w4.cell? ⟨wr.heap.size, 1, none⟩ = some (.slice (some ⟨gp, op, none⟩) g.2.length c2) := (HBx.out.keep p4.k).cell 1
          clear p4 HW3 HBx HTw
          have HTe : Hid (∀ _ : Unit, Calls Tryz.prog 26 #[.slice (some ⟨gp, op, none⟩) g.2.length c2, telV pb] w4 fun e w' => (∃ tb, e = .returned (.pointer (some ⟨tb, 0, none⟩)) ∧ Tl w' pb tb g.2 gp op c2) ∧ Below w4.heap.size w4 w') := fun _ => newTeller_any g.2 pb gp op c2 (by have := HRt.out.len; omega) HRt.out.each _ (HNd.out.same (HPq.out.bl.block gp lgp)) lgp (pg_lt HPq.out.i)
          go_wp2_with fail
          refine (HTe.out ()).mono ?_
          rintro e w5 ⟨⟨tb, rfl, ht⟩, b5⟩
          have HP5 := (show Hid (Pg pb w2 w5 (grT (gs.take k) ++ (g.1.data.toList ++ [32, 60, 45, 32]))) from HPq.out.later b5)
          have HPa : Hid (∀ _ : Unit, Calls Tryz.prog 28 #[.pointer (some ⟨tb, 0, none⟩)] w5 fun e W' => e = .returned (.tuple #[]) ∧ Pg pb w5 W' ((grT (gs.take k) ++ (g.1.data.toList ++ [32, 60, 45, 32])) ++ itT (shI g.2))) := fun _ => pattern_any HRt.out HWd.out w5 _ ht HP5.out.i (by rw [List.length_append, List.length_append]; have := HLl.out; show _ + (_ + 4) ≤ _; omega)
          clear ht b5 HTe HPq
          go_wp2_with fail
          refine (HPa.out ()).mono ?_
          rintro e w6 ⟨rfl, p6⟩
          have HP6 := (show Hid (Pg pb w2 w6 ((grT (gs.take k) ++ (g.1.data.toList ++ [32, 60, 45, 32])) ++ itT (shI g.2))) from HP5.out.trans p6)
          clear p6 HPa HP5
          go_wp2_with fail
          refine (tell_one ⟨#[10]⟩ HP6.out.i (by rw [List.length_append]; rw [List.length_append, List.length_append]; have := HLl.out; show _ + (_ + 4) + _ + 1 ≤ _; omega)).mono ?_
          rintro e w7 ⟨rfl, p7⟩
          have HP7 := (show Hid (Pg pb w2 w7 (grT (gs.take (k + 1)))) from by
            show Pg pb w2 w7 _
            rw [HGs.out]
            have := HP6.out.trans p7
            rw [HLn.out, ← List.append_assoc, ← List.append_assoc]
            exact this)
          clear p7 HP6
          go_wp2_with fail
          go_roundw
          case rel => exact ⟨k + 1, by omega, by go_num, HP7⟩
          case measure => simp [intOf]; omega
      · obtain rfl : k = gs.length := by omega
        have HWh : Hid (∀ _ : Unit, Calls Tryz.prog 29 #[.pointer (some ⟨pb, 0, none⟩)] wr fun e w' => e = .returned (.tuple #[.string (lnR (grT gs)).1, .int .i64 (lnR (grT gs)).2]) ∧ Below pb wr w') := fun _ => by
          have h := HW.out
          rw [HTk.out] at h
          exact whole_any pb _ wr h.i HNe.out (by have := HLe.out; omega)
        have hle : w.heap.size ≤ pb := by omega
        clear HG
        go_wp2_with fail
        refine (HWh.out ()).mono ?_
        rintro e w4 ⟨rfl, b4⟩
        have HB4 := (show Hid (Below w.heap.size w w4) from (HD.out.2.trans (HW.out.bl.mono hle)).trans (b4.mono hle))
        clear b4 HWh HW HD
        go_wp2_with fail
        go_ret2
        exact ⟨by rw [HE.out]; rfl, HB4.out⟩
  · have t0 : (wrR gs != 0) = true := by rw [bne, beq_eq_false_iff_ne.2 hc]; rfl
    have HE := (show Hid (grR gs = (⟨#[]⟩, wrR gs)) from by show grR gs = _; unfold grR; rw [if_neg hc])
    clear hp hT hw hc
    generalize wrR gs = wv at *
    have y0 := HX.out.cl
    go_enter Tryz.func16, Tryz.ntmps16
    go_wp2_with fail
    refine (HC.out ()).mono ?_
    rintro e w1 ⟨rfl, b1⟩
    have HB1 := (show Hid (Below w.heap.size w w1) from HB0.out.trans (b1.mono HB0.out.size))
    clear b1 HC HX HB0 y0
    go_wp2_with fail
    go_ret2
    exact ⟨by rw [HE.out]; rfl, HB1.out⟩
end Go.Proofs.YtnpifgcgjgddoaaGreatDoor.N

namespace Go.Proofs.YtnpifgcgjgddoaaGreatDoor.N
open Go.RowKit
theorem nw_z {n : Nd} (h : n.s0 = 0 ∧ n.s1 = 0 ∧ n.s2 = 0 ∧ n.s3 = 0) : NdW n := by
  obtain ⟨a, b, c, d⟩ := h
  exact ⟨by omega, by omega, by omega, by omega⟩
theorem tk_nw {l : List Tk} (hr : ∀ t ∈ l, Rgt t) (i : Nat) : TkB (tkA (mkE l) i) := by
  unfold tkA
  cases h : (mkE l).l[i]? with
  | none => exact ⟨by decide, by decide, by decide, by decide, by decide, by decide⟩
  | some t => exact (hr t (List.mem_of_getElem? h)).b
set_option maxHeartbeats 8000000 in
theorem ex_nw {l : List Tk} (hr : ∀ t ∈ l, Rgt t) {i a : Nat} {ns : List Nd} (h : exN (mkE l) i = .inl (a, ns)) : ∀ n ∈ ns, NdW n := by
  have z0 : ∀ op, NdW (nd0 op) := fun op => nw_z ⟨rfl, rfl, rfl, rfl⟩
  refine PF_all (mkE l) NdW z0 ?_ ?_ ?_ _ _ _ _ _ _ h
  · intro i p hp
    unfold sufN sufK at hp
    repeat (split at hp; · cases hp; exact nw_z ⟨rfl, rfl, rfl, rfl⟩)
    split at hp
    · split at hp
      · split at hp
        · cases hp; exact nw_z ⟨rfl, rfl, rfl, rfl⟩
        · cases hp
      · split at hp
        · split at hp
          · cases hp
          · cases hp; exact nw_z ⟨rfl, rfl, rfl, rfl⟩
        · cases hp
    · cases hp
  · intro i p hp n hn
    have hu := tk_nw hr i
    unfold primL primK at hp
    have one : ∀ op, n ∈ [nd0 op] → NdW n := fun op q => by rw [List.mem_singleton.1 q]; exact z0 op
    by_cases c0 : (tkA (mkE l) i).kd = 2
    · rw [if_pos c0] at hp
      cases hp
      dsimp only at hn
      split at hn
      · exact one _ hn
      · rw [List.mem_singleton.1 hn]; exact nw_z ⟨rfl, rfl, rfl, rfl⟩
    rw [if_neg c0] at hp
    by_cases c1 : (tkA (mkE l) i).kd = 3 ∨ (tkA (mkE l) i).kd = 28
    · rw [if_pos c1] at hp
      cases hp
      rw [List.mem_singleton.1 hn]
      exact ⟨⟨hu.u0, hu.u1⟩, hu.u2, hu.u3, hu.u4⟩
    rw [if_neg c1] at hp
    by_cases c2 : (tkA (mkE l) i).kd = 5
    · rw [if_pos c2] at hp
      cases hp
      have hn : n ∈ rnP (tkA (mkE l) i).nn (tkA (mkE l) i).s0 := hn
      unfold rnP at hn
      rw [List.mem_map] at hn
      obtain ⟨m, _, rfl⟩ := hn
      exact ⟨wd_rng _ _, wd_rng _ _, wd_rng _ _, wd_rng _ _⟩
    rw [if_neg c2] at hp
    by_cases c3 : (tkA (mkE l) i).kd = 18
    · rw [if_pos c3] at hp; cases hp; exact one _ hn
    rw [if_neg c3] at hp
    by_cases c4 : (tkA (mkE l) i).kd = 29
    · rw [if_pos c4] at hp; cases hp; exact one _ hn
    rw [if_neg c4] at hp
    by_cases c5 : (tkA (mkE l) i).kd = 30
    · rw [if_pos c5] at hp; cases hp; exact one _ hn
    rw [if_neg c5] at hp
    by_cases c6 : (tkA (mkE l) i).kd = 1
    · rw [if_pos c6] at hp; cases hp; rw [List.mem_singleton.1 hn]; exact nw_z ⟨rfl, rfl, rfl, rfl⟩
    rw [if_neg c6] at hp
    by_cases c7 : (tkA (mkE l) i).kd = 16
    · rw [if_pos c7] at hp; cases hp
    rw [if_neg c7] at hp
    by_cases c8 : (tkA (mkE l) i).kd = 19
    · rw [if_pos c8] at hp
      by_cases d : kdA (mkE l) (i + 1) = 20
      · rw [if_pos d] at hp; cases hp; exact one _ hn
      · rw [if_neg d] at hp; cases hp
    rw [if_neg c8] at hp
    by_cases c9 : (tkA (mkE l) i).kd = 21
    · rw [if_pos c9] at hp; cases hp
    rw [if_neg c9] at hp
    by_cases c10 : (tkA (mkE l) i).kd = 23
    · rw [if_pos c10] at hp; cases hp
    rw [if_neg c10] at hp
    cases hp
  · intro i p hp n hn
    unfold primL primK at hp
    by_cases c0 : (tkA (mkE l) i).kd = 2
    · rw [if_pos c0] at hp; cases hp
    rw [if_neg c0] at hp
    by_cases c1 : (tkA (mkE l) i).kd = 3 ∨ (tkA (mkE l) i).kd = 28
    · rw [if_pos c1] at hp; cases hp
    rw [if_neg c1] at hp
    by_cases c2 : (tkA (mkE l) i).kd = 5
    · rw [if_pos c2] at hp; cases hp
    rw [if_neg c2] at hp
    by_cases c3 : (tkA (mkE l) i).kd = 18
    · rw [if_pos c3] at hp; cases hp
    rw [if_neg c3] at hp
    by_cases c4 : (tkA (mkE l) i).kd = 29
    · rw [if_pos c4] at hp; cases hp
    rw [if_neg c4] at hp
    by_cases c5 : (tkA (mkE l) i).kd = 30
    · rw [if_pos c5] at hp; cases hp
    rw [if_neg c5] at hp
    by_cases c6 : (tkA (mkE l) i).kd = 1
    · rw [if_pos c6] at hp; cases hp
    rw [if_neg c6] at hp
    by_cases c7 : (tkA (mkE l) i).kd = 16
    · rw [if_pos c7] at hp; cases hp; cases hn
    rw [if_neg c7] at hp
    by_cases c8 : (tkA (mkE l) i).kd = 19
    · rw [if_pos c8] at hp
      by_cases d : kdA (mkE l) (i + 1) = 20
      · rw [if_pos d] at hp; cases hp
      · rw [if_neg d] at hp; cases hp; rw [List.mem_singleton.1 hn]; exact z0 _
    rw [if_neg c8] at hp
    by_cases c9 : (tkA (mkE l) i).kd = 21
    · rw [if_pos c9] at hp; cases hp; rw [List.mem_singleton.1 hn]; exact nw_z ⟨rfl, rfl, rfl, rfl⟩
    rw [if_neg c9] at hp
    by_cases c10 : (tkA (mkE l) i).kd = 23
    · rw [if_pos c10] at hp; cases hp; rw [List.mem_singleton.1 hn]; exact z0 _
    rw [if_neg c10] at hp
    cases hp
    rw [List.mem_singleton.1 hn]
    exact z0 _
/-- What Pattern reads: a right pattern, of sets that are sets. -/
theorem pa_right {s : ByteArray} {gs : List (ByteArray × List Nd)} (h : paR s = .inl gs) : ∃ L, gs = [(⟨#[]⟩, L)] ∧ T.Rt L ∧ ∀ n ∈ L, NdW n := by
  obtain ⟨l, ns, h1, h2, h3, h4, h5⟩ := paR_ok h
  exact ⟨ns, h2, T.rt_of h4, ex_nw (lex_rgt h1) h3⟩
end Go.Proofs.YtnpifgcgjgddoaaGreatDoor.N

namespace Go.Proofs.YtnpifgcgjgddoaaGreatDoor.N
open Go.RowKit
def wkA : List Nd := [⟨4, 0, ⟨#[97]⟩, 0, 0, 0, 0⟩, ⟨4, 0, ⟨#[98]⟩, 0, 0, 0, 0⟩, ⟨7, 0, ⟨#[]⟩, 0, 0, 0, 0⟩, ⟨9, 0, ⟨#[]⟩, 0, 0, 0, 0⟩]
def wkB : List Nd := [⟨4, 0, ⟨#[97]⟩, 0, 0, 0, 0⟩, ⟨9, 0, ⟨#[]⟩, 0, 0, 0, 0⟩, ⟨13, 0, ⟨#[]⟩, 0, 0, 0, 0⟩]
def wkC : List Nd := [⟨4, 0, ⟨#[97]⟩, 0, 0, 0, 0⟩, ⟨6, 0, ⟨#[115]⟩, 0, 0, 0, 0⟩, ⟨7, 0, ⟨#[]⟩, 0, 0, 0, 0⟩, ⟨1, 0, ⟨#[]⟩, 0, 0, 0, 0⟩, ⟨8, 0, ⟨#[]⟩, 0, 0, 0, 0⟩]
theorem wk_a : shR wkA = (⟨#[40, 39, 97, 39, 32, 39, 98, 39, 41, 42]⟩, 0) := by kernel_rfl
theorem wk_b : shR wkB = (⟨#[33, 39, 97, 39, 42]⟩, 0) := by kernel_rfl
theorem wk_c : grR [(⟨#[115]⟩, wkC)] = (⟨#[115, 32, 60, 45, 32, 39, 97, 39, 32, 115, 32, 47, 32, 37, 101, 10]⟩, 0) := by kernel_rfl
theorem wk_tx : ∀ n ∈ wkA ++ (wkB ++ wkC), n.tx.size ≤ 140737488355328 ∧ NdW n := by
  intro n hn
  have h : n.tx.size ≤ 1 ∧ n.s0 = 0 ∧ n.s1 = 0 ∧ n.s2 = 0 ∧ n.s3 = 0 := by
    simp only [wkA, wkB, wkC, List.cons_append, List.nil_append, List.mem_cons, List.not_mem_nil, or_false] at hn
    rcases hn with rfl | rfl | rfl | rfl | rfl | rfl | rfl | rfl | rfl | rfl | rfl | rfl <;> exact ⟨by decide, rfl, rfl, rfl, rfl⟩
  exact ⟨by omega, nw_z h.2⟩
set_option maxRecDepth 100000 in
set_option maxHeartbeats 4000000 in
theorem works_any (w : World) : Calls Tryz.prog 14 #[] w fun e w' => e = .returned (.bool true) ∧ Below w.heap.size w w' := by
  have HA := (show Hid (T.NB ((w.alloc (.cells #[.int .i64 4, .int .i64 0, .string ⟨#[97]⟩, .int .u64 0, .int .u64 0, .int .u64 0, .int .u64 0] 51)).alloc (.cells #[.int .i64 4, .int .i64 0, .string ⟨#[98]⟩, .int .u64 0, .int .u64 0, .int .u64 0, .int .u64 0] 51)) w.heap.size 0 ⟨4, 0, ⟨#[97]⟩, 0, 0, 0, 0⟩) from (T.nb_new w ⟨4, 0, ⟨#[97]⟩, 0, 0, 0, 0⟩).below (below_box _ _))
  have HB := (show Hid (T.NB ((w.alloc (.cells #[.int .i64 4, .int .i64 0, .string ⟨#[97]⟩, .int .u64 0, .int .u64 0, .int .u64 0, .int .u64 0] 51)).alloc (.cells #[.int .i64 4, .int .i64 0, .string ⟨#[98]⟩, .int .u64 0, .int .u64 0, .int .u64 0, .int .u64 0] 51)) (w.heap.size + 1) 0 ⟨4, 0, ⟨#[98]⟩, 0, 0, 0, 0⟩) from by
    have h := T.nb_new (w.alloc (.cells #[.int .i64 4, .int .i64 0, .string ⟨#[97]⟩, .int .u64 0, .int .u64 0, .int .u64 0, .int .u64 0] 51)) ⟨4, 0, ⟨#[98]⟩, 0, 0, 0, 0⟩
    rw [World.size_alloc] at h
    exact h)
  have HW := (show Hid (Below w.heap.size w ((w.alloc (.cells #[.int .i64 4, .int .i64 0, .string ⟨#[97]⟩, .int .u64 0, .int .u64 0, .int .u64 0, .int .u64 0] 51)).alloc (.cells #[.int .i64 4, .int .i64 0, .string ⟨#[98]⟩, .int .u64 0, .int .u64 0, .int .u64 0, .int .u64 0] 51))) from (below_box w _).alloc (below_box w _).size _)
  have H1 : Hid (∀ W : World, Calls Tryz.prog 9 #[.slice (some ⟨W.heap.size, 0, none⟩) 4 4] (W.alloc (.cells #[.int .i64 4, .int .i64 0, .string ⟨#[97]⟩, .int .u64 0, .int .u64 0, .int .u64 0, .int .u64 0, .int .i64 4, .int .i64 0, .string ⟨#[98]⟩, .int .u64 0, .int .u64 0, .int .u64 0, .int .u64 0, .int .i64 7, .int .i64 0, .string ⟨#[]⟩, .int .u64 0, .int .u64 0, .int .u64 0, .int .u64 0, .int .i64 9, .int .i64 0, .string ⟨#[]⟩, .int .u64 0, .int .u64 0, .int .u64 0, .int .u64 0] 51)) fun e w' => e = .returned (.tuple #[.string ⟨#[40, 39, 97, 39, 32, 39, 98, 39, 41, 42]⟩, .int .i64 0]) ∧ Below W.heap.size W w') := fun W => by
    have h := show_any wkA (some ⟨W.heap.size, 0, none⟩) 4 (by decide) (fun n hn => (wk_tx n (List.mem_append_left _ hn)).1) (fun n hn => (wk_tx n (List.mem_append_left _ hn)).2) (W.alloc (.cells #[.int .i64 4, .int .i64 0, .string ⟨#[97]⟩, .int .u64 0, .int .u64 0, .int .u64 0, .int .u64 0, .int .i64 4, .int .i64 0, .string ⟨#[98]⟩, .int .u64 0, .int .u64 0, .int .u64 0, .int .u64 0, .int .i64 7, .int .i64 0, .string ⟨#[]⟩, .int .u64 0, .int .u64 0, .int .u64 0, .int .u64 0, .int .i64 9, .int .i64 0, .string ⟨#[]⟩, .int .u64 0, .int .u64 0, .int .u64 0, .int .u64 0] 51)) (rd_row W wkA (by decide) _ rfl)
    rw [wk_a] at h
    exact h.mono fun e w' ⟨h1, h2⟩ => ⟨h1, (below_box W _).trans (h2.mono (below_box W _).size)⟩
  have H2 : Hid (∀ W : World, Calls Tryz.prog 9 #[.slice (some ⟨W.heap.size, 0, none⟩) 3 3] (W.alloc (.cells #[.int .i64 4, .int .i64 0, .string ⟨#[97]⟩, .int .u64 0, .int .u64 0, .int .u64 0, .int .u64 0, .int .i64 9, .int .i64 0, .string ⟨#[]⟩, .int .u64 0, .int .u64 0, .int .u64 0, .int .u64 0, .int .i64 13, .int .i64 0, .string ⟨#[]⟩, .int .u64 0, .int .u64 0, .int .u64 0, .int .u64 0] 51)) fun e w' => e = .returned (.tuple #[.string ⟨#[33, 39, 97, 39, 42]⟩, .int .i64 0]) ∧ Below W.heap.size W w') := fun W => by
    have h := show_any wkB (some ⟨W.heap.size, 0, none⟩) 3 (by decide) (fun n hn => (wk_tx n (List.mem_append_right _ (List.mem_append_left _ hn))).1) (fun n hn => (wk_tx n (List.mem_append_right _ (List.mem_append_left _ hn))).2) (W.alloc (.cells #[.int .i64 4, .int .i64 0, .string ⟨#[97]⟩, .int .u64 0, .int .u64 0, .int .u64 0, .int .u64 0, .int .i64 9, .int .i64 0, .string ⟨#[]⟩, .int .u64 0, .int .u64 0, .int .u64 0, .int .u64 0, .int .i64 13, .int .i64 0, .string ⟨#[]⟩, .int .u64 0, .int .u64 0, .int .u64 0, .int .u64 0] 51)) (rd_row W wkB (by decide) _ rfl)
    rw [wk_b] at h
    exact h.mono fun e w' ⟨h1, h2⟩ => ⟨h1, (below_box W _).trans (h2.mono (below_box W _).size)⟩
  have H3 : Hid (∀ W : World, Calls Tryz.prog 16 #[.agg #[.slice (some ⟨W.heap.size + 1, 0, none⟩) 1 1]] ((W.alloc (.cells #[.int .i64 4, .int .i64 0, .string ⟨#[97]⟩, .int .u64 0, .int .u64 0, .int .u64 0, .int .u64 0, .int .i64 6, .int .i64 0, .string ⟨#[115]⟩, .int .u64 0, .int .u64 0, .int .u64 0, .int .u64 0, .int .i64 7, .int .i64 0, .string ⟨#[]⟩, .int .u64 0, .int .u64 0, .int .u64 0, .int .u64 0, .int .i64 1, .int .i64 0, .string ⟨#[]⟩, .int .u64 0, .int .u64 0, .int .u64 0, .int .u64 0, .int .i64 8, .int .i64 0, .string ⟨#[]⟩, .int .u64 0, .int .u64 0, .int .u64 0, .int .u64 0] 51)).alloc (.cells #[.string ⟨#[115]⟩, .slice (some ⟨W.heap.size, 0, none⟩) 5 5] 73)) fun e w' => e = .returned (.tuple #[.string ⟨#[115, 32, 60, 45, 32, 39, 97, 39, 32, 115, 32, 47, 32, 37, 101, 10]⟩, .int .i64 0]) ∧ Below W.heap.size W w') := fun W => by
    have hb1 := below_box W (.cells #[.int .i64 4, .int .i64 0, .string ⟨#[97]⟩, .int .u64 0, .int .u64 0, .int .u64 0, .int .u64 0, .int .i64 6, .int .i64 0, .string ⟨#[115]⟩, .int .u64 0, .int .u64 0, .int .u64 0, .int .u64 0, .int .i64 7, .int .i64 0, .string ⟨#[]⟩, .int .u64 0, .int .u64 0, .int .u64 0, .int .u64 0, .int .i64 1, .int .i64 0, .string ⟨#[]⟩, .int .u64 0, .int .u64 0, .int .u64 0, .int .u64 0, .int .i64 8, .int .i64 0, .string ⟨#[]⟩, .int .u64 0, .int .u64 0, .int .u64 0, .int .u64 0] 51)
    have hb2 := below_box (W.alloc (.cells #[.int .i64 4, .int .i64 0, .string ⟨#[97]⟩, .int .u64 0, .int .u64 0, .int .u64 0, .int .u64 0, .int .i64 6, .int .i64 0, .string ⟨#[115]⟩, .int .u64 0, .int .u64 0, .int .u64 0, .int .u64 0, .int .i64 7, .int .i64 0, .string ⟨#[]⟩, .int .u64 0, .int .u64 0, .int .u64 0, .int .u64 0, .int .i64 1, .int .i64 0, .string ⟨#[]⟩, .int .u64 0, .int .u64 0, .int .u64 0, .int .u64 0, .int .i64 8, .int .i64 0, .string ⟨#[]⟩, .int .u64 0, .int .u64 0, .int .u64 0, .int .u64 0] 51)) (.cells #[.string ⟨#[115]⟩, .slice (some ⟨W.heap.size, 0, none⟩) 5 5] 73)
    have hnew := heap_alloc_new (W.alloc (.cells #[.int .i64 4, .int .i64 0, .string ⟨#[97]⟩, .int .u64 0, .int .u64 0, .int .u64 0, .int .u64 0, .int .i64 6, .int .i64 0, .string ⟨#[115]⟩, .int .u64 0, .int .u64 0, .int .u64 0, .int .u64 0, .int .i64 7, .int .i64 0, .string ⟨#[]⟩, .int .u64 0, .int .u64 0, .int .u64 0, .int .u64 0, .int .i64 1, .int .i64 0, .string ⟨#[]⟩, .int .u64 0, .int .u64 0, .int .u64 0, .int .u64 0, .int .i64 8, .int .i64 0, .string ⟨#[]⟩, .int .u64 0, .int .u64 0, .int .u64 0, .int .u64 0] 51)) (.cells #[.string ⟨#[115]⟩, .slice (some ⟨W.heap.size, 0, none⟩) 5 5] 73)
    rw [World.size_alloc] at hnew
    have hc : ∀ n ∈ wkC, n.tx.size ≤ 140737488355328 ∧ NdW n := fun n hn => wk_tx n (List.mem_append_right _ (List.mem_append_right _ hn))
    have h := grammar_any [(⟨#[115]⟩, wkC)] (some ⟨W.heap.size + 1, 0, none⟩) 1 (by decide) (fun g hg => by rw [List.mem_singleton.1 hg]; exact ⟨by decide, by decide, fun n hn => (hc n hn).1⟩) (fun g hg => by rw [List.mem_singleton.1 hg]; exact fun n hn => (hc n hn).2) ((W.alloc (.cells #[.int .i64 4, .int .i64 0, .string ⟨#[97]⟩, .int .u64 0, .int .u64 0, .int .u64 0, .int .u64 0, .int .i64 6, .int .i64 0, .string ⟨#[115]⟩, .int .u64 0, .int .u64 0, .int .u64 0, .int .u64 0, .int .i64 7, .int .i64 0, .string ⟨#[]⟩, .int .u64 0, .int .u64 0, .int .u64 0, .int .u64 0, .int .i64 1, .int .i64 0, .string ⟨#[]⟩, .int .u64 0, .int .u64 0, .int .u64 0, .int .u64 0, .int .i64 8, .int .i64 0, .string ⟨#[]⟩, .int .u64 0, .int .u64 0, .int .u64 0, .int .u64 0] 51)).alloc (.cells #[.string ⟨#[115]⟩, .slice (some ⟨W.heap.size, 0, none⟩) 5 5] 73)) (fun k g hg => by
      have hk : k = 0 := by have := (List.getElem?_eq_some_iff.1 hg).1; simp at this; exact this
      subst hk
      cases hg
      refine ⟨W.heap.size + 1, 0, some ⟨W.heap.size, 0, none⟩, 5, rfl, by rw [World.size_alloc, World.size_alloc]; omega, ?_, ?_, (rd_row W wkC (by decide) _ rfl).below hb2 (Nat.le_refl _)⟩
      · exact (Lib.cell_of_heap hnew 0)
      · exact (Lib.cell_of_heap hnew 1))
    rw [wk_c] at h
    exact h.mono fun e w' ⟨h1, h2⟩ => ⟨h1, ((hb1.trans (hb2.mono hb1.size))).trans (h2.mono (Nat.le_trans hb1.size hb2.size))⟩
  have H1' : Hid (∀ _ : Unit, Calls Tryz.prog 9 #[.slice (some ⟨w.heap.size + 1 + 1, 0, none⟩) 4 4] (((w.alloc (.cells #[.int .i64 4, .int .i64 0, .string ⟨#[97]⟩, .int .u64 0, .int .u64 0, .int .u64 0, .int .u64 0] 51)).alloc (.cells #[.int .i64 4, .int .i64 0, .string ⟨#[98]⟩, .int .u64 0, .int .u64 0, .int .u64 0, .int .u64 0] 51)).alloc (.cells #[.int .i64 4, .int .i64 0, .string ⟨#[97]⟩, .int .u64 0, .int .u64 0, .int .u64 0, .int .u64 0, .int .i64 4, .int .i64 0, .string ⟨#[98]⟩, .int .u64 0, .int .u64 0, .int .u64 0, .int .u64 0, .int .i64 7, .int .i64 0, .string ⟨#[]⟩, .int .u64 0, .int .u64 0, .int .u64 0, .int .u64 0, .int .i64 9, .int .i64 0, .string ⟨#[]⟩, .int .u64 0, .int .u64 0, .int .u64 0, .int .u64 0] 51)) fun e w' => e = .returned (.tuple #[.string ⟨#[40, 39, 97, 39, 32, 39, 98, 39, 41, 42]⟩, .int .i64 0]) ∧ Below ((w.alloc (.cells #[.int .i64 4, .int .i64 0, .string ⟨#[97]⟩, .int .u64 0, .int .u64 0, .int .u64 0, .int .u64 0] 51)).alloc (.cells #[.int .i64 4, .int .i64 0, .string ⟨#[98]⟩, .int .u64 0, .int .u64 0, .int .u64 0, .int .u64 0] 51)).heap.size ((w.alloc (.cells #[.int .i64 4, .int .i64 0, .string ⟨#[97]⟩, .int .u64 0, .int .u64 0, .int .u64 0, .int .u64 0] 51)).alloc (.cells #[.int .i64 4, .int .i64 0, .string ⟨#[98]⟩, .int .u64 0, .int .u64 0, .int .u64 0, .int .u64 0] 51)) w') := fun _ => by
    have h := H1.out ((w.alloc (.cells #[.int .i64 4, .int .i64 0, .string ⟨#[97]⟩, .int .u64 0, .int .u64 0, .int .u64 0, .int .u64 0] 51)).alloc (.cells #[.int .i64 4, .int .i64 0, .string ⟨#[98]⟩, .int .u64 0, .int .u64 0, .int .u64 0, .int .u64 0] 51))
    have e : ((w.alloc (.cells #[.int .i64 4, .int .i64 0, .string ⟨#[97]⟩, .int .u64 0, .int .u64 0, .int .u64 0, .int .u64 0] 51)).alloc (.cells #[.int .i64 4, .int .i64 0, .string ⟨#[98]⟩, .int .u64 0, .int .u64 0, .int .u64 0, .int .u64 0] 51)).heap.size = w.heap.size + 1 + 1 := by rw [World.size_alloc, World.size_alloc]
    rw [e] at h ⊢
    exact h
  clear H1
  go_enter Tryz.func14, Tryz.ntmps14
  go_wp2_with fail
  refine (H1'.out ()).mono ?_
  rintro e w2 ⟨rfl, b2⟩
  have HA2 := (show Hid _ from HA.out.below b2)
  have HW2 := (show Hid _ from HW.out.trans (b2.mono HW.out.size))
  obtain ⟨a0, a1, a2, a3, a4, a5, a6⟩ := HA2.out
  clear HA HB HW b2 H1'
  go_wp2_with fail
  refine (H2.out _).mono ?_
  rintro e w3 ⟨rfl, b3⟩
  have HA3 := (show Hid _ from HA2.out.below b3)
  have HW3 := (show Hid _ from HW2.out.trans (b3.mono HW2.out.size))
  clear a0 a1 a2 a3 a4 a5 a6 HA2 HW2 b3 H2
  obtain ⟨a0, a1, a2, a3, a4, a5, a6⟩ := HA3.out
  go_wp2_with fail
  refine (H3.out _).mono ?_
  rintro e w4 ⟨rfl, b4⟩
  have HW4 := (show Hid _ from HW3.out.trans (b4.mono HW3.out.size))
  clear a0 a1 a2 a3 a4 a5 a6 HA3 HW3 b4 H3
  go_wp2_with fail
  go_ret
  exact ⟨rfl, HW4.out⟩
end Go.Proofs.YtnpifgcgjgddoaaGreatDoor.N

namespace Go.Proofs.YtnpifgcgjgddoaaGreatDoor.N
open Go.RowKit
theorem fx_neq (a b c d : Int) (W : World) : (binOp .neq 39 (.agg #[.int .i64 a, .int .i64 b]) (.agg #[.int .i64 c, .int .i64 d])).run Tryz.prog W = .ok (.bool (!(a == c && b == d))) W := by
  have h := eq26 a b c d W
  have e : Op.maxDepth = 10000 := rfl
  simp [binOp, Op.equal, e, h]
theorem tx_small {n : Nd} (h : T.alE n = 0) : n.tx.size ≤ 255 := by
  have hf := (al_fd h).2.1
  unfold T.txF at hf
  split at hf
  · exact (of_decide_eq_true hf).2
  split at hf
  · have := nm_len hf; omega
  split at hf
  · rcases Bool.or_eq_true_iff.1 hf with q | q
    · have := of_decide_eq_true q; omega
    · have := nm_len q; omega
  split at hf
  · unfold T.tmB at hf
    split at hf
    · assumption
    · cases hf
  · have := of_decide_eq_true hf; omega
theorem rt_tx {L : List Nd} (hr : T.Rt L) : ∀ n ∈ L, n.tx.size ≤ 140737488355328 := fun n hn => by have := tx_small (al_in hr n hn); omega
theorem rd_set {W : World} {A : Option Addr} {L : List Nd} (h : T.RdN W A L) {b j : Nat} {v : Value} (hb : L ≠ [] → ∀ a, A = some a → a.block ≠ b) : T.RdN (W.setCell ⟨b, j, none⟩ v) A L := fun hl => by
  obtain ⟨g, o, e, lt, c⟩ := h hl
  exact ⟨g, o, e, by rw [World.size_setCell]; exact lt, c.same (heap_setCell_other W ⟨b, j, none⟩ g v (hb hl ⟨g, o, none⟩ e))⟩
/-- What notation's Pattern hands back, to be read. -/
theorem patt_rd (s : ByteArray) (w : World) (hg : GW w) {L : List Nd} (h : paR s = .inl [(⟨#[]⟩, L)]) : Calls Tryz.prog 19 #[.string s] w fun e w' => (∃ A c, e = .returned (.tuple #[.slice A L.length c, .agg #[.int .i64 0, .int .i64 0]]) ∧ T.RdN w' A L ∧ ∀ a, A = some a → w.heap.size ≤ a.block) ∧ Below w.heap.size w w' := by
  refine (patt_any s w hg).mono ?_
  rintro e w' ⟨h1, h2⟩
  rw [h] at h1
  obtain ⟨v, ns, e1, rfl, ho⟩ := h1
  have e2 : L = ns := by
    injection e1 with h6 _
    injection h6 with _ h8
  subst e2
  have hlt := ho.lt
  obtain ⟨A, c, rfl, hr⟩ := T.own_rd ho rfl
  refine ⟨⟨A, c, rfl, hr, fun a ha => ?_⟩, h2⟩
  subst ha
  exact (hlt a.block rfl).1
theorem patt_er (s : ByteArray) (w : World) (hg : GW w) {p : Int × Int} (h : paR s = .inr p) : Calls Tryz.prog 19 #[.string s] w fun e w' => e = .returned (.tuple #[.slice none 0 0, .agg #[.int .i64 p.1, .int .i64 p.2]]) ∧ Below w.heap.size w w' := by
  have := patt_any s w hg
  rw [h] at this
  exact this
theorem lnR_long {l : List UInt8} (h : 65536 < l.length) : lnR l = (⟨#[]⟩, 2) := by unfold lnR; rw [if_pos h]
theorem lnR_ok {l : List UInt8} (h : ¬ 65536 < l.length) : lnR l = (txO l, 0) := by unfold lnR; rw [if_neg h]
theorem shR_rt {L : List Nd} (h : T.Rt L) : shR L = lnR (itT (shI L)) := by unfold shR; rw [if_pos (by rw [h.ck])]
set_option maxRecDepth 100000 in
set_option maxHeartbeats 8000000 in
theorem forth_any (s : ByteArray) (w : World) (hg : GW w) : Calls Tryz.prog 6 #[.string s] w fun e w' => e = .returned (.bool true) ∧ Below w.heap.size w w' := by
  have HWk := (show Hid (∀ W, Calls Tryz.prog 14 #[] W fun e w' => e = .returned (.bool true) ∧ Below W.heap.size W w') from works_any)
  have HG := (show Hid (GW w) from hg)
  have hneq := fx_neq
  have heql := fx_eql
  cases hp : paR s with
  | inr p =>
    have HP := (show Hid (∀ W, GW W → Calls Tryz.prog 19 #[.string s] W fun e w' => e = .returned (.tuple #[.slice none 0 0, .agg #[.int .i64 p.1, .int .i64 p.2]]) ∧ Below W.heap.size W w') from fun W hW => patt_er s W hW hp)
    have t1 : (p.2 == 0) = false := beq_eq_false_iff_ne.2 (paR_err hp).1
    clear hp hg
    go_enter Tryz.func6, Tryz.ntmps6
    go_wp2_with fail
    refine (HWk.out _).mono ?_
    rintro e w1 ⟨rfl, b1⟩
    have HG1 := (show Hid (GW w1) from HG.out.later b1)
    have HB1 := (show Hid (Below w.heap.size w w1) from b1)
    clear b1 HWk HG
    go_wp2_with fail
    refine (HP.out _ HG1.out).mono ?_
    rintro e w2 ⟨rfl, b2⟩
    have HB2 := (show Hid (Below w.heap.size w w2) from HB1.out.trans (b2.mono HB1.out.size))
    clear b2 HP HB1 HG1
    go_wp2_with fail
    go_ret
    exact ⟨rfl, HB2.out.alloc HB2.out.size _⟩
  | inl gs =>
    obtain ⟨L, rfl, hr, hw⟩ := pa_right hp
    have HP := (show Hid (∀ W, GW W → Calls Tryz.prog 19 #[.string s] W fun e w' => (∃ A c, e = .returned (.tuple #[.slice A L.length c, .agg #[.int .i64 0, .int .i64 0]]) ∧ T.RdN w' A L ∧ ∀ a, A = some a → W.heap.size ≤ a.block) ∧ Below W.heap.size W w') from fun W hW => patt_rd s W hW hp)
    have hL : L.length ≤ 2048 := by have := hr.len; omega
    have HS := (show Hid (∀ A c W, T.RdN W A L → Calls Tryz.prog 9 #[.slice A L.length c] W fun e w' => e = .returned (.tuple #[.string (lnR (itT (shI L))).1, .int .i64 (lnR (itT (shI L))).2]) ∧ Below W.heap.size W w') from fun A c W hW => by
      have h := show_any L A c (by omega) (rt_tx hr) hw W hW
      rw [shR_rt hr] at h
      exact h)
    by_cases hl : 65536 < (itT (shI L)).length
    · rw [lnR_long hl] at HS
      clear hp hg hr hw hl hL
      go_enter Tryz.func6, Tryz.ntmps6
      go_wp2_with fail
      refine (HWk.out _).mono ?_
      rintro e w1 ⟨rfl, b1⟩
      have HG1 := (show Hid (GW w1) from HG.out.later b1)
      have HB1 := (show Hid (Below w.heap.size w w1) from b1)
      clear b1 HWk HG
      go_wp2_with fail
      refine (HP.out _ HG1.out).mono ?_
      rintro e w2 ⟨⟨A, c, rfl, hA, _⟩, b2⟩
      have HB2 := (show Hid (Below w.heap.size w w2) from HB1.out.trans (b2.mono HB1.out.size))
      have HR := (show Hid (T.RdN (w2.alloc (.cells #[.int .i64 0, .int .i64 0] 39)) A L) from hA.below (below_box _ _) (Nat.le_refl _))
      have HB3 := (show Hid (Below w.heap.size w (w2.alloc (.cells #[.int .i64 0, .int .i64 0] 39))) from HB2.out.alloc HB2.out.size _)
      clear b2 HP HB1 HG1 hA HB2
      go_wp2_with fail
      refine (HS.out _ _ _ HR.out).mono ?_
      rintro e w4 ⟨rfl, b4⟩
      have HB4 := (show Hid (Below w.heap.size w w4) from HB3.out.trans (b4.mono HB3.out.size))
      clear b4 HS HR HB3
      go_wp2_with fail
      go_ret
      exact ⟨rfl, HB4.out⟩
    · rw [lnR_ok hl] at HS
      have hb := sh_back hr hw (by omega)
      have HP2 := (show Hid (∀ W, GW W → Calls Tryz.prog 19 #[.string (txO (itT (shI L)))] W fun e w' => (∃ A c, e = .returned (.tuple #[.slice A L.length c, .agg #[.int .i64 0, .int .i64 0]]) ∧ T.RdN w' A L ∧ ∀ a, A = some a → W.heap.size ≤ a.block) ∧ Below W.heap.size W w') from fun W hW => patt_rd _ W hW hb)
      have HQ := (show Hid (∀ A1 c1 A2 c2 W, T.RdN W A1 L → T.RdN W A2 L → Calls Tryz.prog 20 #[.slice A1 L.length c1, .slice A2 L.length c2] W fun e w' => e = .returned (.bool true) ∧ Below W.heap.size W w') from fun A1 c1 A2 c2 W h1 h2 => (sameq A1 A2 c1 c2 L (by omega) W h1 h2).mono fun e w' ⟨q1, m, q2⟩ => ⟨q1, by rw [q2]; exact T.below_drewN (Below.refl _ _) m⟩)
      clear hp hg hr hw hl hb hL
      generalize txO (itT (shI L)) = tx at *
      go_enter Tryz.func6, Tryz.ntmps6
      go_wp2_with fail
      refine (HWk.out _).mono ?_
      rintro e w1 ⟨rfl, b1⟩
      have HG1 := (show Hid (GW w1) from HG.out.later b1)
      have HB1 := (show Hid (Below w.heap.size w w1) from b1)
      clear b1 HWk HG
      go_wp2_with fail
      refine (HP.out _ HG1.out).mono ?_
      rintro e w2 ⟨⟨A, c, rfl, hA, _⟩, b2⟩
      have HB2 := (show Hid (Below w.heap.size w w2) from HB1.out.trans (b2.mono HB1.out.size))
      have HG2 := (show Hid (GW w2) from HG1.out.later b2)
      have HR := (show Hid (T.RdN (w2.alloc (.cells #[.int .i64 0, .int .i64 0] 39)) A L) from hA.below (below_box _ _) (Nat.le_refl _))
      have HB3 := (show Hid (Below w.heap.size w (w2.alloc (.cells #[.int .i64 0, .int .i64 0] 39))) from HB2.out.alloc HB2.out.size _)
      have HG3 := (show Hid (GW (w2.alloc (.cells #[.int .i64 0, .int .i64 0] 39))) from HG2.out.later (below_box _ _))
      have HF := (show Hid (FX (w2.alloc (.cells #[.int .i64 0, .int .i64 0] 39)) w2.heap.size 0 0) from ⟨heap_alloc_new w2 _⟩)
      have HAl := (show Hid (L ≠ [] → ∀ a, A = some a → a.block ≠ w2.heap.size) from fun hne a ha => by
        obtain ⟨g, o, e, lt, _⟩ := hA hne
        rw [e] at ha
        cases ha
        show g ≠ w2.heap.size
        omega)
      have hwl := HB2.out.size
      clear b2 HP HB1 HG1 hA HB2 HG2
      go_wp2_with fail
      refine (HS.out _ _ _ HR.out).mono ?_
      rintro e w4 ⟨rfl, b4⟩
      have HB4 := (show Hid (Below w.heap.size w w4) from HB3.out.trans (b4.mono HB3.out.size))
      have HR4 := (show Hid (T.RdN w4 A L) from HR.out.below b4 (Nat.le_refl _))
      have HG4 := (show Hid (GW w4) from HG3.out.later b4)
      have HF4 := (show Hid (FX w4 w2.heap.size 0 0) from HF.out.below b4)
      clear b4 HR HB3 HG3 HF
      go_wp2_with fail
      refine (HP2.out _ HG4.out).mono ?_
      rintro e w5 ⟨⟨A5, c5, rfl, hA5, hA6⟩, b5⟩
      have HB5 := (show Hid (Below w.heap.size w ((w5.setCell ⟨w2.heap.size, 0, none⟩ (.int .i64 0)).setCell ⟨w2.heap.size, 1, none⟩ (.int .i64 0))) from ((HB4.out.trans (b5.mono HB4.out.size)).setCell (p := ⟨w2.heap.size, 0, none⟩) hwl _).setCell (p := ⟨w2.heap.size, 1, none⟩) hwl _)
      have hf4 := HF4.out.lt
      have HR5 := (show Hid (T.RdN ((w5.setCell ⟨w2.heap.size, 0, none⟩ (.int .i64 0)).setCell ⟨w2.heap.size, 1, none⟩ (.int .i64 0)) A L) from rd_set (rd_set (HR4.out.below b5 (Nat.le_refl _)) HAl.out) HAl.out)
      have HQ5 := (show Hid (T.RdN ((w5.setCell ⟨w2.heap.size, 0, none⟩ (.int .i64 0)).setCell ⟨w2.heap.size, 1, none⟩ (.int .i64 0)) A5 L) from rd_set (rd_set hA5 (fun _ a ha => by have := hA6 a ha; omega)) (fun _ a ha => by have := hA6 a ha; omega))
      have HF5 := (show Hid (FX w5 w2.heap.size 0 0) from HF4.out.below b5)
      have HFz := (show Hid (FX ((w5.setCell ⟨w2.heap.size, 0, none⟩ (.int .i64 0)).setCell ⟨w2.heap.size, 1, none⟩ (.int .i64 0)) w2.heap.size 0 0) from by
        have h1 : FX (w5.setCell ⟨w2.heap.size, 0, none⟩ (.int .i64 0)) w2.heap.size 0 0 := ⟨by rw [heap_setCell_same _ w2.heap.size 0 _ 39 _ HF5.out.heap]; rfl⟩
        exact ⟨by rw [heap_setCell_same _ w2.heap.size 1 _ 39 _ h1.heap]; rfl⟩)
      have g0 := HF5.out.c0
      have g1 := HF5.out.c1
      have f0 := HF5.out.f0
      have f1 := HF5.out.f1
      clear b5 hA5 hA6 HB4 HR4 HG4 HF4 hf4
      go_wp2_with fail
      generalize (w5.setCell ⟨w2.heap.size, 0, none⟩ (.int .i64 0)).setCell ⟨w2.heap.size, 1, none⟩ (.int .i64 0) = w6 at *
      refine (HS.out _ _ _ HQ5.out).mono ?_
      rintro e w7 ⟨rfl, b7⟩
      have HB7 := (show Hid (Below w.heap.size w w7) from HB5.out.trans (b7.mono HB5.out.size))
      have HR7 := (show Hid (T.RdN w7 A L) from HR5.out.below b7 (Nat.le_refl _))
      have HQ7 := (show Hid (T.RdN w7 A5 L) from HQ5.out.below b7 (Nat.le_refl _))
      have HF7 := (show Hid (FX w7 w2.heap.size 0 0) from HFz.out.below b7)
      clear b7 HB5 HR5 HQ5 HFz HF5 g0 g1 f0 f1 HS
      have g0 := HF7.out.c0
      have g1 := HF7.out.c1
      go_wp2_with fail
      refine (HQ.out _ _ _ _ _ HR7.out HQ7.out).mono ?_
      rintro e w8 ⟨rfl, b8⟩
      have HB8 := (show Hid (Below w.heap.size w w8) from HB7.out.trans (b8.mono HB7.out.size))
      clear b8 HB7 HQ HR7 HQ7 HF7 g0 g1
      go_wp2_with fail
      go_ret
      exact ⟨rfl, HB8.out⟩
end Go.Proofs.YtnpifgcgjgddoaaGreatDoor.N

namespace Go.Proofs.YtnpifgcgjgddoaaGreatDoor
open Go.ChangeShapes Go.WideShapes Go.ChangeAt Go.RowKit
open Go.ChangeMaps (open_string shut_string)
set_option maxRecDepth 100000 in
theorem showForth_contract (H : Type) (enc : TypeId × Value → H) (W : World) (base : Nat) (args : Array Value) (ds gs : List (DataW H)) (before : List MemPlace)
    (hval0 : ∀ (j : Nat) t v, Tryz.f6.params[j]? = some t → args[j]? = some v → Value.okWide Tryz.prog W .any base t v)
    (hW : DataW.Whole enc Tryz.prog Tryz.f6.params.toList Rows.showForthSpec.vars false W args.toList ds gs before) (hvb : N.GW W)
    (hsz : (DataW.weightsEach Tryz.prog (Tryz.f6.params.toList ++ (OpenSpec.ofChange Rows.showForthSpec).bare.plain.varTypes Tryz.prog) (ds ++ gs)).all (· ≤ reachBytes) = true) :
    Calls Tryz.prog 6 args W fun e W' => ∃ v, e = .returned v ∧ Rows.showForthSpec.post enc Tryz.prog Tryz.f6 false true false false W args v W' := by
  have hval : ∀ (j : Nat) t v, Tryz.f6.params[j]? = some t → args[j]? = some v → Value.okWide Tryz.prog W .any base t v := hval0
  have hW' := hW
  obtain ⟨p, q, hA0, hV, rfl, hfz, hnd⟩ := hW
  have hA : DataW.TrodAll enc Tryz.prog W 0 (fun _ => true) true Tryz.f6.params.toList args.toList ds p := hA0
  rw [Tryz.params6] at hA hval hsz
  obtain ⟨v1, d1, rfl, rfl, h1⟩ := trodAll_one hA
  obtain ⟨rfl, rfl⟩ := trodVars_none hV
  obtain ⟨s1, rfl, rfl, rfl, hs1⟩ := open_string Tryz.underlying9 (hval 0 9 v1 rfl rfl) h1
  clear hA0 hval0
  refine (N.forth_any s1 W hvb).mono fun e W' ⟨he, bel⟩ => ?_
  subst he
  exact ⟨_, rfl, _, _, _, [], _, [], hW', trodAll_mk1 (shut_bool Tryz.underlying4 _), (trodAll_cons_mk (shut_string Tryz.underlying9 hs1) trodAll_mk0), rfl, bel.frame _, fun h => by cases h⟩

theorem showForth_met (os : Os) : laidMet Tryz.prog Rows.showForthRow.laid ((layTab (World.holding Tryz.prog os ⟨#[], #[], []⟩)).forCall (fun _ _ => 0) ⟨#[], #[.string ByteArray.empty], []⟩).memory :=
  laidMet_of_run' 8 (by kernel_rfl) (by kernel_rfl)
theorem showForth_reads (os : Os) {H : Type} (enc : TypeId × Value → H) : ∃ places, DataW.whole enc Tryz.prog ((layTab (World.holding Tryz.prog os ⟨#[], #[], []⟩)).forCall (fun _ _ => 0) ⟨#[], #[.string ByteArray.empty], []⟩).memory Tryz.f6.params.toList Rows.showForthSpec.vars false (#[.string ByteArray.empty] : Array Value).toList 8 = some ([.lit (.string [])], [], places) :=
  ⟨[], by kernel_rfl⟩

set_option maxRecDepth 100000 in
theorem showForth_lifted (os : Os) (started : os.Started) (H : Type) (enc : TypeId × Value → H) (F : Stop.Interp) :
    ReturnsInHanded {} Tryz.checked os 6 .any ((OpenSpec.ofChange Rows.showForthSpec).preRow enc Tryz.prog Tryz.f6 Rows.showForthRow.domain false Rows.showForthRow.laid) (((OpenSpec.ofChange Rows.showForthSpec).at F).post enc Tryz.prog Tryz.f6 false true false false) := by
  obtain ⟨places, hx⟩ := showForth_reads os enc
  refine returnsInHanded_of_row (C := Tryz.checked) (s := OpenSpec.ofChange Rows.showForthSpec) own started (by kernel_rfl) Tryz.func6
    (witness_row_at (enc := enc) (C := Tryz.checked) false (layTab (World.holding Tryz.prog os ⟨#[], #[], []⟩)) #[.string ByteArray.empty] rfl (by kernel_rfl) (by kernel_rfl) (by kernel_rfl)
      (OpenSpec.preRow_of_cond 8 hx (by kernel_rfl) (fun k hk => by cases hk) (by kernel_rfl) (showForth_met os))) ?_
  intro W base args ds gs before hval hW _ hcond hsz hL _ _
  exact showForth_contract H enc W base args ds gs before hval hW (gw_of_laid hL) hsz

theorem showForth_row : Rows.ShowForthSaid :=
  OpenClaim.holds_of_cond 6 Tryz.f6 rfl rfl rfl rfl rfl rfl rfl ⟨rfl, rfl, rfl, rfl, rfl⟩ rfl rfl rfl rfl rfl (by kernel_rfl) Tryz.func6 (by kernel_rfl)
    (of_decide_eq_true (by kernel_rfl)) (by unfold Func.isWrapper; first | (rw [if_pos (by decide +kernel)]; kernel_rfl) | (rw [if_neg (by decide +kernel)]; exact ⟨rfl, rfl⟩))
    (fun os started H enc _ F => by rw [OpenClaim.pre_eq_preRow]; exact showForth_lifted os started H enc F)
theorem showForth_plain (f : FuncId) (fn : Func) (hf : Tryz.pinned.checked.prog.funcNamed "harrow/harrowlaw07.ShowForth" = some f) (hfn : Tryz.pinned.checked.prog.funcs[f]? = some fn) :
    true = Tryz.pinned.checked.prog.looks [] ∧ ∀ (j : Nat) t, fn.params[j]? = some t → Tryz.pinned.checked.prog.wantsStandIn t = false := by
  obtain rfl : f = 6 := Option.some.inj ((show Tryz.prog.funcNamed "harrow/harrowlaw07.ShowForth" = some 6 by kernel_rfl).symm.trans hf) |>.symm
  obtain rfl : fn = Tryz.f6 := (Option.some.inj (Tryz.func6.symm.trans hfn)).symm
  refine ⟨by kernel_rfl, fun j t ht => ?_⟩
  rw [Tryz.params6] at ht
  have hm : t ∈ [9] := by simpa using Array.mem_of_getElem? ht
  have hall : ([9].all fun u => !Tryz.prog.wantsStandIn u) = true := by kernel_rfl
  exact (show Tryz.prog.wantsStandIn t = false by simpa using List.all_eq_true.1 hall t hm)
theorem showForth_holds : Rows.ShowForthCardSaid :=
  Claim7.holds_tied_plain_at .later [] _ _ _ _ showForth_row (fun _ h => by cases h) (by kernel_rfl) (fun _ h => by cases h) showForth_row_tie rfl ⟨rfl, rfl⟩ (by kernel_rfl) rfl showForth_plain (by kernel_rfl)
end Go.Proofs.YtnpifgcgjgddoaaGreatDoor
