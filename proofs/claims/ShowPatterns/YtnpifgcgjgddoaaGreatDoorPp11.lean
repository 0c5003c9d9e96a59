/- DERIVED. Plain mathematics and walks, laid together (11). -/
import Derived.Deep.SlicePairs
import Derived.Lib.SmallJoins
import Derived.Laws.IdiomArrays
import Derived.SizedLaws
import Derived.OpenShut
import Derived.ShutString
import Derived.ChangeOld
import Derived.Test.YtnpifgcgjgddoaaGreatDoorPp10
namespace Go.Proofs.YtnpifgcgjgddoaaGreatDoor.N
open Go.RowKit
/-- A tree's rows from some depth on. -/
def ddT (d : Nat) (e : Tr) : List UInt8 := trT (e.map fun x => (x.1 + d, x.2))
def kdR (L : List Nd) (d : Nat) (ks : List Nat) : Nat → List UInt8
  | 0 => []
  | i + 1 => match ks[i]? with
    | some j => kdR L d ks i ++ ddT (d + 1) (enR L j)
    | none => kdR L d ks i
theorem kdR_succ {L : List Nd} {d : Nat} {ks : List Nat} {i j : Nat} (h : ks[i]? = some j) : kdR L d ks (i + 1) = kdR L d ks i ++ ddT (d + 1) (enR L j) := by rw [kdR, h]
theorem kdR_mono (L : List Nd) (d : Nat) (ks : List Nat) (i : Nat) : ∀ m, (kdR L d ks i).length ≤ (kdR L d ks (i + m)).length := by
  intro m
  induction m with
  | zero => exact Nat.le_refl _
  | succ m ih =>
    refine Nat.le_trans ih ?_
    show _ ≤ (kdR L d ks (i + m + 1)).length
    rw [kdR]
    split
    · rw [List.length_append]; omega
    · exact Nat.le_refl _
theorem kdR_le {L : List Nd} {d : Nat} {ks : List Nat} {i m : Nat} (h : i ≤ m) : (kdR L d ks i).length ≤ (kdR L d ks m).length := by
  have := kdR_mono L d ks i (m - i)
  rwa [show i + (m - i) = m from by omega] at this
theorem trT_app (a b : Tr) : trT (a ++ b) = trT a ++ trT b := List.flatMap_append
theorem ddT_up (d : Nat) (e : Tr) : trT ((upT e).map fun x => (x.1 + d, x.2)) = ddT (d + 1) e := by
  unfold upT ddT
  rw [List.map_map]
  congr 1
  apply List.map_congr_left
  intro x _
  show (x.1 + 1 + d, x.2) = (x.1 + (d + 1), x.2)
  rw [Nat.add_assoc, Nat.add_comm 1 d]
theorem er_text {L : List Nd} {k d : Nat} {n : Nd} (hn : L[k]? = some n) (he : ∀ j, j ≤ k → T.er L j = 0) : ddT d (enR L k) = rowT (d, n) ++ kdR L d (kds L k) (kds L k).length := by
  rw [er_node hn he]
  unfold ddT
  rw [List.map_cons]
  have hop : T.opAt L k = n.op := T.op_of hn
  have e0 : ∀ l : Tr, trT ((0 + d, n) :: l) = rowT (d, n) ++ trT l := fun l => by rw [Nat.zero_add]; rfl
  show trT ((0 + d, n) :: _) = _
  rw [e0]
  congr 1
  by_cases a0 : T.arN n.op = 0
  · have hks : kds L k = [] := by unfold kds; rw [hop, if_pos a0]
    rw [hks, if_pos a0]; rfl
  by_cases a1 : T.arN n.op = 1
  · have hks : kds L k = [k - 1] := by unfold kds; rw [hop, if_neg a0, if_pos a1]
    rw [hks, if_neg a0, if_pos a1, ddT_up]
    show _ = kdR L d [k - 1] (0 + 1)
    rw [kdR_succ (j := k - 1) rfl]
    rfl
  · have hks : kds L k = [(T.pt L (k - 1)).1 - 1, k - 1] := by unfold kds; rw [hop, if_neg a0, if_neg a1]
    rw [hks, if_neg a0, if_neg a1, List.map_append, trT_app, ddT_up, ddT_up]
    show _ = kdR L d [(T.pt L (k - 1)).1 - 1, k - 1] (1 + 1)
    rw [kdR_succ (j := k - 1) rfl, kdR_succ (j := (T.pt L (k - 1)).1 - 1) rfl]
    rfl
/-- What stands behind the word. -/
theorem ag_text {n : Nd} (h : T.alE n = 0) (hw : NdW n) : agX (agT n) = if (fldX n).size = 0 then [] else 32 :: (fldX n).data.toList := by
  unfold fldX
  cases ha : agT n with
  | none => rfl
  | some t =>
    obtain ⟨hg, _⟩ := ag_rgt h hw ha
    have h1 := (tok_there hg.r hg.b (s := tkX t) (b := 0) (fun k _ => rfl) (by rw [chr_out (by omega)]; decide)).1
    show 32 :: (tkX t).data.toList = if (tkX t).size = 0 then [] else 32 :: (tkX t).data.toList
    rw [if_neg (by omega)]
/-- The kinds' words. -/
structure WT (W : World) : Prop where
  c : ∀ op : Nat, 1 ≤ op → op ≤ 23 → W.cell? ⟨0, op, none⟩ = some (.string (txO (wdT op)))
theorem WT.below {B : Nat} {W W' : World} (h : WT W) (hb : Below B W W') (hB : 0 < B) : WT W' := ⟨fun op h1 h2 => (hb.cell (p := ⟨0, op, none⟩) hB).trans (h.c op h1 h2)⟩
theorem wd_len (op : Int) : (wdT op).length ≤ 6 := by
  unfold wdT
  by_cases h1 : op = 1
  · subst h1; decide
  by_cases h2 : op = 2
  · subst h2; decide
  by_cases h3 : op = 3
  · subst h3; decide
  by_cases h4 : op = 4
  · subst h4; decide
  by_cases h5 : op = 5
  · subst h5; decide
  by_cases h6 : op = 6
  · subst h6; decide
  by_cases h7 : op = 7
  · subst h7; decide
  by_cases h8 : op = 8
  · subst h8; decide
  by_cases h9 : op = 9
  · subst h9; decide
  by_cases h10 : op = 10
  · subst h10; decide
  by_cases h11 : op = 11
  · subst h11; decide
  by_cases h12 : op = 12
  · subst h12; decide
  by_cases h13 : op = 13
  · subst h13; decide
  by_cases h14 : op = 14
  · subst h14; decide
  by_cases h15 : op = 15
  · subst h15; decide
  by_cases h16 : op = 16
  · subst h16; decide
  by_cases h17 : op = 17
  · subst h17; decide
  by_cases h18 : op = 18
  · subst h18; decide
  by_cases h19 : op = 19
  · subst h19; decide
  by_cases h20 : op = 20
  · subst h20; decide
  by_cases h21 : op = 21
  · subst h21; decide
  by_cases h22 : op = 22
  · subst h22; decide
  by_cases h23 : op = 23
  · subst h23; decide
  rw [if_neg h1, if_neg h2, if_neg h3, if_neg h4, if_neg h5, if_neg h6, if_neg h7, if_neg h8, if_neg h9, if_neg h10, if_neg h11, if_neg h12, if_neg h13, if_neg h14, if_neg h15, if_neg h16, if_neg h17, if_neg h18, if_neg h19, if_neg h20, if_neg h21, if_neg h22, if_neg h23]
  decide
theorem tell_drew2 {W : World} {b : Nat} {bs : List UInt8} (s t : ByteArray) (h : Lib.IsBuilder 59 5 b b (Lib.byteCells bs) W) (hl : bs.length + (s.data.toList ++ t.data.toList).length ≤ 140737488355328) : Calls Tryz.prog 27 #[.pointer (some ⟨b, 0, none⟩), .slice (some ⟨W.heap.size, 0, none⟩) 2 2] (W.alloc (.cells #[.string s, .string t] 9)).drew fun e W' => e = .returned (.tuple #[]) ∧ Pg b W W' (bs ++ (s.data.toList ++ t.data.toList)) := by
  have hq := (Pg.start h).later ((Below.refl W.heap.size W).drew)
  have hc := tell_two (W := W.drew) s t hq.i hl
  have e : W.drew.alloc (.cells #[.string s, .string t] 9) = (W.alloc (.cells #[.string s, .string t] 9)).drew := rfl
  rw [e] at hc
  refine Calls.mono hc ?_
  rintro e W' ⟨rfl, hp⟩
  exact ⟨rfl, hq.trans hp⟩
/-- Blanks. -/
def blS (d : Nat) : ByteArray := txO (List.replicate (2 * d) 32)
theorem blS_size (d : Nat) : (blS d).size = 2 * d := by unfold blS; rw [txO_size, List.length_replicate]
theorem blS_succ (d : Nat) : blS d ++ ⟨#[32, 32]⟩ = blS (d + 1) := by
  apply ByteArray.ext
  apply Array.toList_inj.1
  rw [cat_list]
  show List.replicate (2 * d) 32 ++ [32, 32] = List.replicate (2 * (d + 1)) 32
  rw [show 2 * (d + 1) = 2 * d + 2 from by omega, ← List.replicate_append_replicate]
  rfl
/-- What branch keeps to. -/
def BrC (L : List Nd) (b tb gp op cp k : Nat) : Prop := ∀ (W : World) (bs : List UInt8) (d : Nat), d + k ≤ 2048 → WT W → Tl W b tb L gp op cp → Lib.IsBuilder 59 5 b b (Lib.byteCells bs) W → bs.length + (ddT d (enR L k)).length ≤ 100000000 → Calls Tryz.prog 54 #[.pointer (some ⟨tb, 0, none⟩), .int .i64 k, .string (blS d)] W fun e W' => e = .returned (.tuple #[]) ∧ Pg b W W' (bs ++ ddT d (enR L k))
set_option maxRecDepth 100000 in
set_option maxHeartbeats 8000000 in
theorem branch_of {L : List Nd} {b tb gp op cp k : Nat} {n : Nd} (hb0 : 0 < b) (hn : L[k]? = some n) (he : ∀ j, j ≤ k → T.er L j = 0) (hw : NdW n) (hL : L.length ≤ 2048) (hc : ∀ j ∈ kds L k, BrC L b tb gp op cp j) : BrC L b tb gp op cp k := by
  intro W bs d hd hW hT hB hl
  have hk : k < L.length := (List.getElem?_eq_some_iff.1 hn).1
  have hok := T.er_ok hn (he k (Nat.le_refl _))
  have hal := hok.al
  obtain ⟨g, ht, _⟩ := hT.t
  have a0 : W.cell? ⟨tb, 0, none⟩ = some (.slice (some ⟨gp, op, none⟩) L.length cp) := ht.cell 0
  obtain ⟨c0, c1, c2, c3, c4, c5, c6⟩ := hT.n k n hn
  have z0 : (0 : Int) ≤ (k : Int) := by omega
  have z1 : (k : Int) < (L.length : Int) := by omega
  have HF : Hid (∀ w, Calls Tryz.prog 78 #[T.ndG n] w fun e w' => e = .returned (.string (fldX n)) ∧ Below w.heap.size w w') := fun w => field_any n hal hw w
  have hX := er_text (d := d) hn he
  have hrow : rowT (d, n) = (blS d).data.toList ++ (wdT n.op ++ ((if (fldX n).size = 0 then [] else 32 :: (fldX n).data.toList) ++ [10])) := by
    show List.replicate (2 * d) 32 ++ lnT n ++ [10] = _
    unfold lnT
    rw [ag_text hal hw, List.append_assoc, List.append_assoc]
    rfl
  have hopr : 1 ≤ n.op ∧ n.op ≤ 23 := by
    have h1 := T.alE_ar hal
    unfold T.ar at h1
    split at h1
    · omega
    · rename_i q; omega
  have HOw := (show Hid (∀ W, WT W → W.cell? ⟨0, n.op.toNat, none⟩ = some (.string (txO (wdT n.op)))) from fun W hW => by
    have h := hW.c n.op.toNat (by omega) (by omega)
    rwa [show ((n.op.toNat : Nat) : Int) = n.op from by omega] at h)
  obtain ⟨ho1, ho2⟩ := hopr
  have HC := (show Hid _ from hc)
  have HKl := (show Hid (∀ i j, (kds L k)[i]? = some j → j < L.length ∧ j ∈ kds L k ∧ j < k) from fun i j hij => by
    have hm := List.mem_of_getElem? hij
    have h1 := kds_lt hn he j hm
    exact ⟨by omega, hm, h1⟩)
  have hlt := pg_lt hB
  have HT := (show Hid _ from hT)
  have HB := (show Hid _ from hB)
  have HWt := (show Hid (∀ W' bs', Pg b W W' bs' → WT W') from fun W' bs' hp => hW.below hp.bl hb0)
  have hfl := fld_len hal
  have hwl := wd_len n.op
  have hbl := blS_size d
  have hbd := dlen (blS d)
  have hfd := dlen (fldX n)
  have HXr := (show Hid (ddT d (enR L k) = ((blS d).data.toList ++ (wdT n.op ++ ((if (fldX n).size = 0 then [] else 32 :: (fldX n).data.toList) ++ [10]))) ++ kdR L d (kds L k) (kds L k).length) from by show ddT d (enR L k) = _; rw [hX, hrow])
  rw [hX, hrow] at hl
  have hl2 : bs.length + ((blS d).data.toList.length + ((wdT n.op).length + ((if (fldX n).size = 0 then [] else 32 :: (fldX n).data.toList : List UInt8).length + 1)) + (kdR L d (kds L k) (kds L k).length).length) ≤ 100000000 := by
    rw [List.length_append, List.length_append, List.length_append, List.length_append] at hl
    exact hl
  have HL := (show Hid _ from hl2)
  clear hT hB hl hl2 hc ht hok hal he hw hX hrow hn
  go_enter Tryz.func54, Tryz.ntmps54
  go_wp2_with fail
  have HS := (show Hid (Tl (W.alloc (T.ndO n)) b tb L gp op cp ∧ Fx (W.alloc (T.ndO n)) b W.heap.size #[.int .i64 n.op, .int .i64 n.nn, .string n.tx, .int .u64 n.s0, .int .u64 n.s1, .int .u64 n.s2, .int .u64 n.s3] 51) from ⟨HT.out.later hlt (below_box _ _), ⟨⟨_, heap_alloc_new W _⟩, by omega, by decide⟩⟩)
  have HP := (show Hid (Pg b W (W.alloc (T.ndO n)) bs) from (Pg.start HB.out).later (below_box _ _))
  have hgen : ∃ w3, w3 = W.alloc (T.ndO n) := ⟨_, rfl⟩
  obtain ⟨w3, hw3⟩ := hgen
  have hw3' : W.alloc (.cells #[.int .i64 n.op, .int .i64 n.nn, .string n.tx, .int .u64 n.s0, .int .u64 n.s1, .int .u64 n.s2, .int .u64 n.s3] 51) = w3 := hw3.symm
  rw [← hw3] at HS HP
  rw [hw3']
  clear HT HB a0 c0 c1 c2 c3 c4 c5 c6 hw3 hw3'
  generalize hnb : W.heap.size = nb at *
  obtain ⟨g, ht, _⟩ := HS.out.1.t
  have a2 : w3.cell? ⟨tb, 2, none⟩ = some (telV b) := ht.cell 2
  have n0 : w3.cell? ⟨nb, 0, none⟩ = some (.int .i64 n.op) := HS.out.2.cell 0
  have wd : w3.cell? ⟨0, n.op.toNat, none⟩ = some (.string (txO (wdT n.op))) := HOw.out _ (HWt.out w3 _ HP.out)
  have zo0 : (0 : Int) ≤ n.op := by omega
  have zo1 : n.op < 24 := by omega
  have HTl : Hid (∀ _ : Unit, Calls Tryz.prog 27 #[.pointer (some ⟨b, 0, none⟩), .slice (some ⟨w3.heap.size, 0, none⟩) 2 2] (w3.alloc (.cells #[.string (blS d), .string (txO (wdT n.op))] 9)).drew fun e W'' => e = .returned (.tuple #[]) ∧ Pg b w3 W'' (bs ++ ((blS d).data.toList ++ wdT n.op))) := fun _ => tell_drew2 (blS d) (txO (wdT n.op)) HP.out.i (by
    have := HL.out
    have e : (txO (wdT n.op)).data.toList = wdT n.op := rfl
    rw [e, List.length_append]
    omega)
  have HKa := (show Hid (∀ W' bs', Pg b w3 W' bs' → W'.cell? ⟨tb, 2, none⟩ = some (telV b) ∧ W'.cell? ⟨nb, 0, none⟩ = some (.int .i64 n.op) ∧ W'.cell? ⟨0, n.op.toNat, none⟩ = some (.string (txO (wdT n.op)))) from fun W' bs' hp => ⟨(ht.keep hp.k).cell 2, (HS.out.2.keep hp.k).cell 0, HOw.out _ (HWt.out W' _ (HP.out.trans hp))⟩)
  clear ht
  go_region_held3 (fun W => W.cell? ⟨tb, 2, none⟩ = some (telV b) ∧ W.cell? ⟨nb, 0, none⟩ = some (.int .i64 n.op) ∧ W.cell? ⟨0, n.op.toNat, none⟩ = some (.string (txO (wdT n.op)))) (first | go_keep | exact HKa.out _ _ hp) ((with_reducible refine (HTl.out ()).mono ?_; rintro e wA ⟨rfl, hp⟩))
  rename_i hHeld
  have HP1 := (show Hid (Pg b W wA (bs ++ ((blS d).data.toList ++ wdT n.op))) from HP.out.trans hp)
  have HS1 := (show Hid (Tl wA b tb L gp op cp ∧ Fx wA b nb #[.int .i64 n.op, .int .i64 n.nn, .string n.tx, .int .u64 n.s0, .int .u64 n.s1, .int .u64 n.s2, .int .u64 n.s3] 51) from ⟨HS.out.1.pg hp, HS.out.2.keep hp.k⟩)
  clear hHeld hp HKa HTl a2 n0 wd HS HP HOw
  have b0 : wA.cell? ⟨nb, 0, none⟩ = some (.int .i64 n.op) := HS1.out.2.cell 0
  have b1 : wA.cell? ⟨nb, 1, none⟩ = some (.int .i64 n.nn) := HS1.out.2.cell 1
  have b2 : wA.cell? ⟨nb, 2, none⟩ = some (.string n.tx) := HS1.out.2.cell 2
  have b3 : wA.cell? ⟨nb, 3, none⟩ = some (.int .u64 n.s0) := HS1.out.2.cell 3
  have b4 : wA.cell? ⟨nb, 4, none⟩ = some (.int .u64 n.s1) := HS1.out.2.cell 4
  have b5 : wA.cell? ⟨nb, 5, none⟩ = some (.int .u64 n.s2) := HS1.out.2.cell 5
  have b6 : wA.cell? ⟨nb, 6, none⟩ = some (.int .u64 n.s3) := HS1.out.2.cell 6
  go_wp2_with fail
  refine (HF.out _).mono ?_
  rintro e w4 ⟨rfl, b7⟩
  have HP4 := (show Hid (Pg b W w4 (bs ++ ((blS d).data.toList ++ wdT n.op))) from HP1.out.later b7)
  have HS4 := (show Hid (Tl w4 b tb L gp op cp) from HS1.out.1.later (pg_lt HP1.out.i) b7)
  clear b7 b0 b1 b2 b3 b4 b5 b6 HF HP1 HS1
  obtain ⟨g4, ht4, _⟩ := HS4.out.t
  have a4 : w4.cell? ⟨tb, 2, none⟩ = some (telV b) := ht4.cell 2
  clear ht4
  by_cases hs0 : (fldX n).size = 0
  · have te : ((fldX n).toList == []) = true := by
      have e := T.emp_t hs0
      rw [List.isEmpty_iff] at e
      rw [e]; rfl
    have te2 := T.emp_t hs0
    have HPq := HP4
    have HSq := HS4
    have HZ := (show Hid ((if (fldX n).size = 0 then [] else 32 :: (fldX n).data.toList : List UInt8) = []) from if_pos hs0)
    clear hs0
    go_wp2_with fail
    refine (tell_one ⟨#[10]⟩ HPq.out.i (by have := HL.out; rw [HZ.out] at this; rw [List.length_append, List.length_append]; show _ + 1 ≤ _; simp only [List.length_nil] at this; omega)).mono ?_
    rintro e w7 ⟨rfl, p7⟩
    have HP7 := (show Hid (Pg b W w7 ((bs ++ ((blS d).data.toList ++ wdT n.op)) ++ [10])) from HPq.out.trans p7)
    have HS7 := (show Hid (Tl w7 b tb L gp op cp) from HSq.out.pg p7)
    clear p7 HPq HSq
    obtain ⟨g, ht, cur, hcu, hcr⟩ := HS7.out.t
    obtain ⟨u, hu, A, c, rfl, hA⟩ := hcr k hk
    have d1 : w7.cell? ⟨tb, 1, none⟩ = some (.slice (some ⟨g, 0, none⟩) L.length L.length) := ht.cell 1
    have d2 : w7.cell? ⟨g, k, none⟩ = some (.slice A (kds L k).length c) := (hcu.cell k).trans hu
    have HG := (show Hid (∀ (i j : Nat), (kds L k)[i]? = some j → ∃ gg, A = some ⟨gg, 0, none⟩ ∧ ∀ wr bs', Pg b w7 wr bs' → wr.cell? ⟨gg, i, none⟩ = some (.int .i64 j)) from fun i j hij => by
      obtain ⟨gg, cc, e, hf, hc⟩ := hA (by rintro e; rw [e] at hij; cases hij)
      exact ⟨gg, e, fun wr bs' hp => ((hf.keep hp.k).cell i).trans (hc i j hij)⟩)
    have H0 := (show Hid (Pg b w7 w7 (((bs ++ ((blS d).data.toList ++ wdT n.op)) ++ [10]) ++ kdR L d (kds L k) 0)) from by
      show Pg b w7 w7 ((_ ++ [10]) ++ [])
      rw [List.append_nil]
      exact Pg.start HP7.out.i)
    have HK := (show Hid (∀ i, i < (kds L k).length → ∃ j, (kds L k)[i]? = some j) from fun i hi => ⟨_, List.getElem?_eq_getElem hi⟩)
    have hm2 : (kds L k).length ≤ 2 := by rw [kds_len]; exact T.arN_le _
    have HLe := (show Hid (∀ i, i ≤ (kds L k).length → (bs ++ ((blS d).data.toList ++ wdT n.op) ++ [10]).length + (kdR L d (kds L k) i).length ≤ 100000000) from fun i hi => by
      have h1 := HL.out
      have h2 := kdR_le (L := L) (d := d) (ks := kds L k) hi
      rw [HZ.out] at h1; rw [List.length_append, List.length_append, List.length_append]; show _ + 1 + _ ≤ _; simp only [List.length_nil] at h1; omega)
    have HFin := (show Hid (∀ m, (kds L k).length = m → ∀ w', Pg b W w' (((bs ++ ((blS d).data.toList ++ wdT n.op)) ++ [10]) ++ kdR L d (kds L k) m) → Pg b W w' (bs ++ ddT d (enR L k))) from fun m e w' h => by
      rw [← e] at h
      rw [HXr.out, HZ.out, List.nil_append]
      simp only [List.append_assoc] at h ⊢
      exact h)
    clear ht hcu hcr hu hA HL HXr
    generalize hks : kds L k = ks at *
    clear hks
    generalize hm : ks.length = m at *
    have r1 : ¬ 9223372036854775807 < (blS d).size + 2 := by omega
    clear hbl hbd hfd hfl hwl
    go_wp2_with fail
    go_loopw [53] (fun t wr => ∃ i : Nat, i ≤ m ∧ t = .int .i64 i ∧ Hid (Pg b w7 wr (((bs ++ ((blS d).data.toList ++ wdT n.op)) ++ [10]) ++ kdR L d ks i))) (fun t _ => m - (intOf t).toNat)
    case atStart => exact ⟨0, by omega, by go_num, H0⟩
    case round =>
      obtain ⟨i, hi, rfl, HW⟩ := hrel
      clear H0
      by_cases hlt : i < m
      · obtain ⟨j, hj⟩ := HK.out i hlt
        obtain ⟨gg, rfl, hgc⟩ := HG.out i j hj
        obtain ⟨hjL, hjm, hjk⟩ := HKl.out i j hj
        have e0 := hgc wr _ HW.out
        have hle := HLe.out (i + 1) (by omega)
        have hE := kdR_succ (L := L) (d := d) hj
        rw [hE] at hle
        have hq8 : (kdR L d ks i ++ ddT (d + 1) (enR L j)).length = (kdR L d ks i).length + (ddT (d + 1) (enR L j)).length := List.length_append
        have HE := (show Hid _ from hE)
        have z2 : (0 : Int) ≤ (i : Int) := by omega
        have z3 : (i : Int) < (m : Int) := by omega
        have HCj : Hid (∀ _ : Unit, Calls Tryz.prog 54 #[.pointer (some ⟨tb, 0, none⟩), .int .i64 j, .string (blS d ++ ⟨#[32, 32]⟩)] wr fun e W' => e = .returned (.tuple #[]) ∧ Pg b wr W' ((((bs ++ ((blS d).data.toList ++ wdT n.op)) ++ [10]) ++ kdR L d ks i) ++ ddT (d + 1) (enR L j))) := fun _ => by
          rw [blS_succ]
          exact HC.out j hjm wr _ (d + 1) (by omega) (HWt.out wr _ (HP7.out.trans HW.out)) (HS7.out.pg HW.out) HW.out.i (by rw [List.length_append]; omega)
        clear hle hq8 hE hj hjm HKl HK HG hgc HLe HC
        go_wp2_with fail
        refine (HCj.out ()).mono ?_
        rintro e w8 ⟨rfl, p8⟩
        have HW2 := (show Hid (Pg b w7 w8 (((bs ++ ((blS d).data.toList ++ wdT n.op)) ++ [10]) ++ kdR L d ks (i + 1))) from by
          show Pg b w7 w8 _
          rw [HE.out, ← List.append_assoc]
          exact HW.out.trans p8)
        clear p8 HCj HW HE e0
        go_wp2_with fail
        go_roundw
        case rel => exact ⟨i + 1, by omega, by go_num, HW2⟩
        case measure => simp [intOf]; omega
      · obtain rfl : i = m := by omega
        have z3 : ¬ (i : Int) < (i : Int) := by omega
        have HEnd := (show Hid _ from HFin.out i rfl wr (HP7.out.trans HW.out))
        clear HFin HLe HKl HK HG HC
        go_wp2_with fail
        go_end0
        exact ⟨rfl, HEnd.out⟩
  · have te : ((fldX n).toList == []) = false := by
      have e := T.emp_f hs0
      cases hl : (fldX n).toList with
      | nil => rw [hl] at e; cases e
      | cons x r => rfl
    have te2 := T.emp_f hs0
    have HZ := (show Hid ((if (fldX n).size = 0 then [] else 32 :: (fldX n).data.toList : List UInt8) = 32 :: (fldX n).data.toList) from if_neg hs0)
    clear hs0
    go_wp2_with fail
    refine (tell_two ⟨#[32]⟩ (fldX n) HP4.out.i (by have := HL.out; rw [HZ.out, List.length_cons] at this; rw [List.length_append, List.length_append, List.length_append]; show _ + (1 + _) ≤ _; omega)).mono ?_
    rintro e w5 ⟨rfl, p5⟩
    have HPq := (show Hid (Pg b W w5 (bs ++ (((blS d).data.toList ++ wdT n.op) ++ (32 :: (fldX n).data.toList)))) from by
      have := HP4.out.trans p5
      rw [List.append_assoc] at this
      exact this)
    have HSq := (show Hid (Tl w5 b tb L gp op cp) from HS4.out.pg p5)
    clear p5 HP4 HS4 a4
    obtain ⟨g4, ht4, _⟩ := HSq.out.t
    have a4 : w5.cell? ⟨tb, 2, none⟩ = some (telV b) := ht4.cell 2
    clear ht4
    go_wp2_with fail
    refine (tell_one ⟨#[10]⟩ HPq.out.i (by have := HL.out; rw [HZ.out, List.length_cons] at this; rw [List.length_append, List.length_append, List.length_append, List.length_cons]; show _ + 1 ≤ _; omega)).mono ?_
    rintro e w7 ⟨rfl, p7⟩
    have HP7 := (show Hid (Pg b W w7 ((bs ++ (((blS d).data.toList ++ wdT n.op) ++ (32 :: (fldX n).data.toList))) ++ [10])) from HPq.out.trans p7)
    have HS7 := (show Hid (Tl w7 b tb L gp op cp) from HSq.out.pg p7)
    clear p7 HPq HSq
    obtain ⟨g, ht, cur, hcu, hcr⟩ := HS7.out.t
    obtain ⟨u, hu, A, c, rfl, hA⟩ := hcr k hk
    have d1 : w7.cell? ⟨tb, 1, none⟩ = some (.slice (some ⟨g, 0, none⟩) L.length L.length) := ht.cell 1
    have d2 : w7.cell? ⟨g, k, none⟩ = some (.slice A (kds L k).length c) := (hcu.cell k).trans hu
    have HG := (show Hid (∀ (i j : Nat), (kds L k)[i]? = some j → ∃ gg, A = some ⟨gg, 0, none⟩ ∧ ∀ wr bs', Pg b w7 wr bs' → wr.cell? ⟨gg, i, none⟩ = some (.int .i64 j)) from fun i j hij => by
      obtain ⟨gg, cc, e, hf, hc⟩ := hA (by rintro e; rw [e] at hij; cases hij)
      exact ⟨gg, e, fun wr bs' hp => ((hf.keep hp.k).cell i).trans (hc i j hij)⟩)
    have H0 := (show Hid (Pg b w7 w7 (((bs ++ (((blS d).data.toList ++ wdT n.op) ++ (32 :: (fldX n).data.toList))) ++ [10]) ++ kdR L d (kds L k) 0)) from by
      show Pg b w7 w7 ((_ ++ [10]) ++ [])
      rw [List.append_nil]
      exact Pg.start HP7.out.i)
    have HK := (show Hid (∀ i, i < (kds L k).length → ∃ j, (kds L k)[i]? = some j) from fun i hi => ⟨_, List.getElem?_eq_getElem hi⟩)
    have hm2 : (kds L k).length ≤ 2 := by rw [kds_len]; exact T.arN_le _
    have HLe := (show Hid (∀ i, i ≤ (kds L k).length → (bs ++ (((blS d).data.toList ++ wdT n.op) ++ (32 :: (fldX n).data.toList)) ++ [10]).length + (kdR L d (kds L k) i).length ≤ 100000000) from fun i hi => by
      have h1 := HL.out
      have h2 := kdR_le (L := L) (d := d) (ks := kds L k) hi
      rw [HZ.out, List.length_cons] at h1; rw [List.length_append, List.length_append, List.length_append, List.length_append, List.length_cons]; show _ + 1 + _ ≤ _; omega)
    have HFin := (show Hid (∀ m, (kds L k).length = m → ∀ w', Pg b W w' (((bs ++ (((blS d).data.toList ++ wdT n.op) ++ (32 :: (fldX n).data.toList))) ++ [10]) ++ kdR L d (kds L k) m) → Pg b W w' (bs ++ ddT d (enR L k))) from fun m e w' h => by
      rw [← e] at h
      rw [HXr.out, HZ.out]
      simp only [List.append_assoc] at h ⊢
      exact h)
    clear ht hcu hcr hu hA HL HXr
    generalize hks : kds L k = ks at *
    clear hks
    generalize hm : ks.length = m at *
    have r1 : ¬ 9223372036854775807 < (blS d).size + 2 := by omega
    clear hbl hbd hfd hfl hwl
    go_wp2_with fail
    go_loopw [53] (fun t wr => ∃ i : Nat, i ≤ m ∧ t = .int .i64 i ∧ Hid (Pg b w7 wr (((bs ++ (((blS d).data.toList ++ wdT n.op) ++ (32 :: (fldX n).data.toList))) ++ [10]) ++ kdR L d ks i))) (fun t _ => m - (intOf t).toNat)
    case atStart => exact ⟨0, by omega, by go_num, H0⟩
    case round =>
      obtain ⟨i, hi, rfl, HW⟩ := hrel
      clear H0
      by_cases hlt : i < m
      · obtain ⟨j, hj⟩ := HK.out i hlt
        obtain ⟨gg, rfl, hgc⟩ := HG.out i j hj
        obtain ⟨hjL, hjm, hjk⟩ := HKl.out i j hj
        have e0 := hgc wr _ HW.out
        have hle := HLe.out (i + 1) (by omega)
        have hE := kdR_succ (L := L) (d := d) hj
        rw [hE] at hle
        have hq8 : (kdR L d ks i ++ ddT (d + 1) (enR L j)).length = (kdR L d ks i).length + (ddT (d + 1) (enR L j)).length := List.length_append
        have HE := (show Hid _ from hE)
        have z2 : (0 : Int) ≤ (i : Int) := by omega
        have z3 : (i : Int) < (m : Int) := by omega
        have HCj : Hid (∀ _ : Unit, Calls Tryz.prog 54 #[.pointer (some ⟨tb, 0, none⟩), .int .i64 j, .string (blS d ++ ⟨#[32, 32]⟩)] wr fun e W' => e = .returned (.tuple #[]) ∧ Pg b wr W' ((((bs ++ (((blS d).data.toList ++ wdT n.op) ++ (32 :: (fldX n).data.toList))) ++ [10]) ++ kdR L d ks i) ++ ddT (d + 1) (enR L j))) := fun _ => by
          rw [blS_succ]
          exact HC.out j hjm wr _ (d + 1) (by omega) (HWt.out wr _ (HP7.out.trans HW.out)) (HS7.out.pg HW.out) HW.out.i (by rw [List.length_append]; omega)
        clear hle hq8 hE hj hjm HKl HK HG hgc HLe HC
        go_wp2_with fail
        refine (HCj.out ()).mono ?_
        rintro e w8 ⟨rfl, p8⟩
        have HW2 := (show Hid (Pg b w7 w8 (((bs ++ (((blS d).data.toList ++ wdT n.op) ++ (32 :: (fldX n).data.toList))) ++ [10]) ++ kdR L d ks (i + 1))) from by
          show Pg b w7 w8 _
          rw [HE.out, ← List.append_assoc]
          exact HW.out.trans p8)
        clear p8 HCj HW HE e0
        go_wp2_with fail
        go_roundw
        case rel => exact ⟨i + 1, by omega, by go_num, HW2⟩
        case measure => simp [intOf]; omega
      · obtain rfl : i = m := by omega
        have z3 : ¬ (i : Int) < (i : Int) := by omega
        have HEnd := (show Hid _ from HFin.out i rfl wr (HP7.out.trans HW.out))
        clear HFin HLe HKl HK HG HC
        go_wp2_with fail
        go_end0
        exact ⟨rfl, HEnd.out⟩
end Go.Proofs.YtnpifgcgjgddoaaGreatDoor.N

namespace Go.Proofs.YtnpifgcgjgddoaaGreatDoor
open Go.ChangeShapes Go.WideShapes Go.ChangeAt Go.RowKit
theorem gWd : Tryz.prog.globalNamed "harrow/show.words" = some 0 := by kernel_rfl
theorem gWdType : (Tryz.prog.globals[0]?).map (·.type) = some 131 := by kernel_rfl
theorem wd_laid {H : Type} : (Rows.laid_harrow_show_words : DataW H) = .agg ((List.range 24).map fun (k : Nat) => .lit (.string (N.wdT k))) := by kernel_rfl
set_option maxRecDepth 100000 in
theorem wt_of_vars {W : World} {rest : List (String × DataW Unit)} {ps : List MemPlace} (h : DataW.LaidVars Tryz.prog W (("harrow/show.words", Rows.laid_harrow_show_words) :: rest) ps) : N.WT W := by
  obtain ⟨g', t', cs, fuel, p, q, hg', ht', hvar, hd, _, _⟩ := h
  obtain rfl := Option.some.inj (gWd.symm.trans hg')
  obtain rfl := Option.some.inj (gWdType.symm.trans ht')
  obtain ⟨xs, m, rfl, hx, hl, hn, hel⟩ := DataW.trod_array Tryz.underlying131 hd
  have hx1 := congrArg Prod.fst hx
  dsimp only at hx1
  rw [wd_laid] at hx1
  injection hx1 with hx1
  rw [Tryz.cellsStr] at hel
  have hcell := World.var?_cell gWd hvar
  refine ⟨fun op h1 h2 => ?_⟩
  have k0 := hel op (by omega)
  obtain ⟨x, hxj⟩ : ∃ x, xs[op]? = some x := ⟨_, List.getElem?_eq_getElem (by omega)⟩
  rw [hxj] at k0
  obtain ⟨s, e1, e2, _⟩ := DataW.trod_string Tryz.underlying9 k0
  have h3 : (xs.map (·.1))[op]? = some x.1 := by rw [List.getElem?_map, hxj]; rfl
  rw [← hx1, List.getElem?_map, List.getElem?_range (by omega), e2] at h3
  have h3 : DataW.lit (.string (N.wdT (op : Int))) = .lit (.string s.data.toList) := Option.some.inj h3
  injection h3 with h3
  injection h3 with h3
  have c0 : cs.toList[op]? = some (.string s) := by
    have := congrArg (fun l => l[0]?) e1
    simp only [List.getElem?_take, List.getElem?_drop, List.getElem?_cons_zero] at this
    rw [if_pos (by omega), show op * 1 + 0 = op from by omega] at this
    exact this
  have hs : s = txO (N.wdT (op : Int)) := by rw [h3]; rfl
  rw [← hs]
  exact (hcell op).trans (by simpa using c0)
abbrev laidW : List (String × DataW Unit) := [("math/bits.deBruijn32tab", Rows.laid_math_bits_deBruijn32tab), ("math/bits.deBruijn64tab", Rows.laid_math_bits_deBruijn64tab), ("internal/strconv.uint64pow10", Rows.laid_internal_strconv_uint64pow10), ("harrow/show.words", Rows.laid_harrow_show_words)]
theorem wt_of_laid {W : World} (h : laidMetH Tryz.prog laidW W) : N.WT W := by
  have h : laidMet Tryz.prog laidW W := h
  obtain ⟨ps, h1, _⟩ := h
  obtain ⟨q2, h2⟩ := vars_tail h1
  obtain ⟨q3, h3⟩ := vars_tail h2
  obtain ⟨q4, h4⟩ := vars_tail h3
  exact wt_of_vars h4
end Go.Proofs.YtnpifgcgjgddoaaGreatDoor

namespace Go.Proofs.YtnpifgcgjgddoaaGreatDoor.N
open Go.RowKit
/-- A grammar in a box of its own. -/
structure GX (W : World) (k : Nat) (a : Value) : Prop where
  heap : W.heap[k]? = some (.cells #[a] 33 (0, 0))
theorem GX.lt {W : World} {k : Nat} {a : Value} (h : GX W k a) : k < W.heap.size := (Array.getElem?_eq_some_iff.1 h.heap).1
theorem GX.same {W W' : World} {k : Nat} {a : Value} (h : GX W k a) (hb : W'.heap[k]? = W.heap[k]?) : GX W' k a := ⟨hb.trans h.heap⟩
theorem GX.below {W W' : World} {k : Nat} {a : Value} (h : GX W k a) (hb : Below W.heap.size W W') : GX W' k a := h.same (hb.block k h.lt)
theorem GX.cl {W : World} {k : Nat} {a : Value} (h : GX W k a) : W.cell? ⟨k, 0, none⟩ = some a := by
  rw [cell_of_row W k 0 _ 33 (0, 0) h.heap]; rfl
end Go.Proofs.YtnpifgcgjgddoaaGreatDoor.N

namespace Go.Proofs.YtnpifgcgjgddoaaGreatDoor.N
open Go.RowKit
/-- A rule's line, without its line feed. -/
def lnI (g : ByteArray × List Nd) : List It := (if g.1.size = 0 then [] else [txI 1 g.1, none, sgI 6, none]) ++ shI g.2
def grT (gs : List (ByteArray × List Nd)) : List UInt8 := gs.flatMap fun g => itT (lnI g) ++ [10]
end Go.Proofs.YtnpifgcgjgddoaaGreatDoor.N

namespace Go.Proofs.YtnpifgcgjgddoaaGreatDoor.N
open Go.RowKit
/-- The node by which the program asks for a name. -/
def nmN (s : ByteArray) : Nd := ⟨6, 0, s, 0, 0, 0, 0⟩
theorem ck_nm (s : ByteArray) : ((T.ck [nmN s]).2 == 0) = T.nmB s := by
  have e : (⟨#[]⟩ : ByteArray) = ByteArray.empty := rfl
  cases h : T.nmB s <;> simp [nmN, T.ck, T.ckGo, T.er, T.alE, T.fdF, T.txF, T.nuF, T.seF, T.ar, T.run, T.pt, T.mk, T.arN, T.opAt, h]
theorem rd_row (w : World) (L : List Nd) (h0 : L.length ≤ 2048) (c : Array Value) (hc : c.toList = T.ndc L) : T.RdN (w.alloc (.cells c 51)) (some ⟨w.heap.size, 0, none⟩) L := fun _ => by
  refine ⟨w.heap.size, 0, rfl, by rw [World.size_alloc]; omega, ?_⟩
  refine T.own_ndl (B := w.heap.size) (n := L.length) (cap := L.length) (xs := []) ?_
  rw [List.append_nil]
  have hl := T.ndc_len L
  exact ⟨hl, .inr ⟨w.heap.size, L.length, c, rfl, Nat.le_refl _, heap_alloc_new w _, Nat.le_refl _, by unfold maxLen; omega, by rw [← Array.length_toList, hc]; exact hl, by rw [hc]; exact List.take_of_length_le (by omega)⟩⟩
set_option maxRecDepth 100000 in
set_option maxHeartbeats 4000000 in
theorem isName_any (s : ByteArray) (hs : s.size ≤ 140737488355328) (W : World) : Calls Tryz.prog 58 #[.string s] W fun e W' => e = .returned (.bool (T.nmB s)) ∧ Below W.heap.size W W' := by
  have HC : Hid (∀ _ : Unit, Calls Tryz.prog 25 #[.slice (some ⟨W.heap.size, 0, none⟩) 1 1] (W.alloc (.cells #[.int .i64 6, .int .i64 0, .string s, .int .u64 0, .int .u64 0, .int .u64 0, .int .u64 0] 51)) fun e w' => e = .returned (.tuple #[.int .i64 (T.ck [nmN s]).1, .int .i64 (T.ck [nmN s]).2]) ∧ Below (W.alloc (.cells #[.int .i64 6, .int .i64 0, .string s, .int .u64 0, .int .u64 0, .int .u64 0, .int .u64 0] 51)).heap.size (W.alloc (.cells #[.int .i64 6, .int .i64 0, .string s, .int .u64 0, .int .u64 0, .int .u64 0, .int .u64 0] 51)) w') := fun _ =>
    T.check_any [nmN s] (some ⟨W.heap.size, 0, none⟩) 1 (by show 1 ≤ _; omega) (by intro n hn; rw [List.mem_singleton.1 hn]; exact hs) _ (rd_row W [nmN s] (by show 1 ≤ _; omega) _ rfl)
  have HE := (show Hid (((T.ck [nmN s]).2 == 0) = T.nmB s) from ck_nm s)
  have HB := (show Hid (Below W.heap.size W (W.alloc (.cells #[.int .i64 6, .int .i64 0, .string s, .int .u64 0, .int .u64 0, .int .u64 0, .int .u64 0] 51))) from below_box _ _)
  clear hs
  generalize (T.ck [nmN s]).2 = cc at *
  generalize ((T.ck [nmN s]).1 : Int) = c1 at *
  generalize T.nmB s = nb at *
  go_enter Tryz.func58, Tryz.ntmps58
  go_wp2_with fail
  refine (HC.out ()).mono ?_
  rintro e w1 ⟨rfl, b1⟩
  have HB1 := (show Hid (Below W.heap.size W w1) from HB.out.trans (b1.mono HB.out.size))
  clear HC b1 HB
  go_wp2_with fail
  go_ret
  exact ⟨by rw [← HE.out]; rfl, HB1.out⟩
/-- What is wrong with a grammar that is told. -/
def wrGo (len : Nat) : Nat → List (ByteArray × List Nd) → Int
  | _, [] => 0
  | nodes, g :: r => if ¬ (g.1.size = 0 ∧ len = 1) ∧ T.nmB g.1 = false then 6 else if (T.ck g.2).2 ≠ 0 then (T.ck g.2).2 else if 2048 < nodes + g.2.length then 2 else wrGo len (nodes + g.2.length) r
def wrR (gs : List (ByteArray × List Nd)) : Int := if gs.length = 0 then 3 else if 200 < gs.length then 2 else wrGo gs.length 0 gs
/-- The first rules' nodes together. -/
def ndS (gs : List (ByteArray × List Nd)) : Nat → Nat
  | 0 => 0
  | k + 1 => match gs[k]? with
    | some g => ndS gs k + g.2.length
    | none => ndS gs k
theorem ndS_succ {gs : List (ByteArray × List Nd)} {k : Nat} {g : ByteArray × List Nd} (h : gs[k]? = some g) : ndS gs (k + 1) = ndS gs k + g.2.length := by rw [ndS, h]
/-- A slice of rules, read. -/
def GrD (W : World) (A : Option Addr) (gs : List (ByteArray × List Nd)) : Prop := ∀ (k : Nat) g, gs[k]? = some g → ∃ b o A2 c2, A = some ⟨b, o, none⟩ ∧ b < W.heap.size ∧ W.cell? ⟨b, o + k * 2, none⟩ = some (.string g.1) ∧ W.cell? ⟨b, o + k * 2 + 1, none⟩ = some (.slice A2 g.2.length c2) ∧ T.RdN W A2 g.2
theorem GrD.later {W W' : World} {A : Option Addr} {gs : List (ByteArray × List Nd)} (h : GrD W A gs) (hb : Below W.heap.size W W') : GrD W' A gs := fun k g hg => by
  obtain ⟨b, o, A2, c2, h1, h2, h3, h4, h5⟩ := h k g hg
  exact ⟨b, o, A2, c2, h1, Nat.lt_of_lt_of_le h2 hb.size, (hb.cell (p := ⟨b, o + k * 2, none⟩) h2).trans h3, (hb.cell (p := ⟨b, o + k * 2 + 1, none⟩) h2).trans h4, h5.below hb (Nat.le_refl _)⟩
/-- A rule in a box of its own. -/
structure RB (W : World) (b : Nat) (s : ByteArray) (v : Value) : Prop where
  heap : W.heap[b]? = some (.cells #[.string s, v] 73 (0, 0))
theorem RB.lt {W : World} {b : Nat} {s : ByteArray} {v : Value} (h : RB W b s v) : b < W.heap.size := (Array.getElem?_eq_some_iff.1 h.heap).1
theorem RB.c0 {W : World} {b : Nat} {s : ByteArray} {v : Value} (h : RB W b s v) : W.cell? ⟨b, 0, none⟩ = some (.string s) := by rw [cell_of_row W b 0 _ 73 (0, 0) h.heap]; rfl
theorem RB.c1 {W : World} {b : Nat} {s : ByteArray} {v : Value} (h : RB W b s v) : W.cell? ⟨b, 1, none⟩ = some v := by rw [cell_of_row W b 1 _ 73 (0, 0) h.heap]; rfl
theorem RB.same {W W' : World} {b : Nat} {s : ByteArray} {v : Value} (h : RB W b s v) (hb : W'.heap[b]? = W.heap[b]?) : RB W' b s v := ⟨hb.trans h.heap⟩
theorem RB.later {W W' : World} {b : Nat} {s : ByteArray} {v : Value} (h : RB W b s v) (hb : Below W.heap.size W W') : RB W' b s v := h.same (hb.block b h.lt)
set_option maxRecDepth 100000 in
set_option maxHeartbeats 16000000 in
theorem checkRules_any (gs : List (ByteArray × List Nd)) (A : Option Addr) (c : Nat) (hl : gs.length ≤ 140737488355328) (hT : ∀ g ∈ gs, g.1.size ≤ 140737488355328 ∧ g.2.length ≤ 140737488355328 ∧ ∀ n ∈ g.2, n.tx.size ≤ 140737488355328) (w : World) (hp : GrD w A gs) :
    Calls Tryz.prog 35 #[.slice A gs.length c] w fun e w' => e = .returned (.int .i64 (wrR gs)) ∧ Below w.heap.size w w' := by
  by_cases h0 : gs.length = 0
  · have HE := (show Hid (wrR gs = 3) from by show wrR gs = 3; unfold wrR; rw [if_pos h0])
    have t0 : ((gs.length : Int) == 0) = true := beq_iff_eq.2 (by omega)
    clear h0 hp hT
    go_enter Tryz.func35, Tryz.ntmps35
    go_wp2_with fail
    go_ret
    exact ⟨by rw [HE.out]; rfl, Below.refl _ _⟩
  have t0 : ((gs.length : Int) == 0) = false := beq_eq_false_iff_ne.2 (by omega)
  by_cases h2 : 200 < gs.length
  · have HE := (show Hid (wrR gs = 2) from by show wrR gs = 2; unfold wrR; rw [if_neg h0, if_pos h2])
    have t2 : (200 : Int) < (gs.length : Int) := by omega
    clear h0 hp hT h2
    go_enter Tryz.func35, Tryz.ntmps35
    go_wp2_with fail
    go_ret
    exact ⟨by rw [HE.out]; rfl, Below.refl _ _⟩
  have t2 : ¬ (200 : Int) < (gs.length : Int) := by omega
  have HE := (show Hid (wrR gs = wrGo gs.length (ndS gs 0) (gs.drop 0)) from by show wrR gs = _; unfold wrR; rw [if_neg h0, if_neg h2]; rfl)
  have HP := (show Hid (GrD w A gs) from hp)
  have HG := (show Hid (∀ k, k < gs.length → ∃ g, gs[k]? = some g ∧ g.1.size ≤ 140737488355328 ∧ g.2.length ≤ 140737488355328 ∧ (∀ n ∈ g.2, n.tx.size ≤ 140737488355328) ∧ gs.drop k = g :: gs.drop (k + 1)) from fun k hk => ⟨_, List.getElem?_eq_getElem hk, (hT _ (List.getElem_mem hk)).1, (hT _ (List.getElem_mem hk)).2.1, (hT _ (List.getElem_mem hk)).2.2, List.drop_eq_getElem_cons hk⟩)
  have HN := (show Hid (¬ gs.length = 0) from h0)
  clear h0 hp hT h2
  go_enter Tryz.func35, Tryz.ntmps35
  go_wp2_with fail
  go_loopw [3, 17] (fun v t wr => ∃ k : Nat, k ≤ gs.length ∧ t = .int .i64 k ∧ v = .int .i64 (ndS gs k) ∧ Hid (ndS gs k ≤ 2048) ∧ Hid (wrR gs = wrGo gs.length (ndS gs k) (gs.drop k)) ∧ Hid (Below w.heap.size w wr)) (fun _ t _ => gs.length - (intOf t).toNat)
  case atStart => exact ⟨0, by omega, by go_num, by go_num, Nat.zero_le _, HE, Below.refl _ _⟩
  case round =>
    obtain ⟨k, hk, rfl, rfl, HQ, HX, HW⟩ := hrel
    clear HE
    by_cases hlt : k < gs.length
    · obtain ⟨g, hg, s1, s2, s3, hd⟩ := HG.out k hlt
      obtain ⟨b, o, A2, c2, rfl, lb, x0, x1, r2⟩ := HP.out k g hg
      have x0' := (HW.out.cell (p := ⟨b, o + k * 2, none⟩) lb).trans x0
      have x1' := (HW.out.cell (p := ⟨b, o + k * 2 + 1, none⟩) lb).trans x1
      clear x0 x1
      have z0 : (0 : Int) ≤ (k : Int) := by omega
      have z1 : (k : Int) < (gs.length : Int) := by omega
      have HR := (show Hid (RB (wr.alloc (.cells #[.string g.1, .slice A2 g.2.length c2] 73)) wr.heap.size g.1 (.slice A2 g.2.length c2)) from ⟨heap_alloc_new wr _⟩)
      have HW1 := (show Hid (Below w.heap.size w (wr.alloc (.cells #[.string g.1, .slice A2 g.2.length c2] 73))) from HW.out.alloc HW.out.size _)
      have HNm : Hid (∀ W, Calls Tryz.prog 58 #[.string g.1] W fun e W' => e = .returned (.bool (T.nmB g.1)) ∧ Below W.heap.size W W') := fun W => isName_any g.1 s1 W
      have HCk : Hid (∀ W, Below w.heap.size w W → Calls Tryz.prog 25 #[.slice A2 g.2.length c2] W fun e w' => e = .returned (.tuple #[.int .i64 (T.ck g.2).1, .int .i64 (T.ck g.2).2]) ∧ Below W.heap.size W w') := fun W hW => T.check_any g.2 A2 c2 s2 s3 W (r2.below hW (Nat.le_refl _))
      have hgk := hg
      have HSz := (show Hid (g.2.length ≤ 140737488355328) from s2)
      clear hg r2 s1 s2 s3 HW
      by_cases hs0 : g.1.size = 0
      · have te : (g.1.toList == []) = true := by
          have e := T.emp_t hs0
          rw [List.isEmpty_iff] at e
          rw [e]; rfl
        have te2 := T.emp_t hs0
        by_cases hl1 : gs.length = 1
        · have tl : ((gs.length : Int) == 1) = true := beq_iff_eq.2 (by omega)
          have HWy := HW1
          have HBy := HW1
          have HRy := HR
          have HU := (show Hid (wrR gs = if (T.ck g.2).2 ≠ 0 then (T.ck g.2).2 else if 2048 < ndS gs k + g.2.length then 2 else wrGo gs.length (ndS gs k + g.2.length) (gs.drop (k + 1))) from by show wrR gs = _; rw [HX.out, hd, wrGo, if_neg (by rintro ⟨q, _⟩; exact q ⟨hs0, hl1⟩)])
          have HV := (show Hid ((T.ck g.2).2 = 0 → wrR gs = if 2048 < ndS gs k + g.2.length then 2 else wrGo gs.length (ndS gs k + g.2.length) (gs.drop (k + 1))) from fun h => by rw [HU.out, if_neg (by rw [h]; simp)])
          clear hl1 hs0
          -- the body is checked
          by_cases hc : (T.ck g.2).2 = 0
          · have HV2 := (show Hid _ from HV.out hc)
            have tc : ((T.ck g.2).2 != 0) = false := by rw [hc]; rfl
            have hg3 : g.2.length ≤ 2048 := ck_len hc
            have hq := HQ.out
            generalize hcc : (T.ck g.2).2 = cc at *
            clear hcc
            by_cases hn : 2048 < ndS gs k + g.2.length
            · have HF := (show Hid (wrR gs = 2) from by show wrR gs = 2; rw [HV2.out, if_pos hn])
              have tn : (2048 : Int) < (ndS gs k : Int) + (g.2.length : Int) := by omega
              clear HV HV2 HU HX HG HP HQ hn
              have y0 := HRy.out.c0
              have y1 := HRy.out.c1
              go_wp2_with fail
              refine (HCk.out _ HBy.out).mono ?_
              rintro e w3 ⟨rfl, b3⟩
              have HW3 := (show Hid (Below w.heap.size w w3) from HWy.out.trans (b3.mono HWy.out.size))
              have x1 := (HRy.out.later b3).c1
              clear HCk b3 HBy HRy
              go_wp2_with fail
              go_ret
              exact ⟨by rw [HF.out]; rfl, HW3.out⟩
            · have HF := (show Hid (wrR gs = wrGo gs.length (ndS gs (k + 1)) (gs.drop (k + 1))) from by show wrR gs = _; rw [HV2.out, if_neg hn, ndS_succ hgk])
              have tn : ¬ (2048 : Int) < (ndS gs k : Int) + (g.2.length : Int) := by omega
              have HQ2 := (show Hid (ndS gs (k + 1) ≤ 2048) from by show ndS gs (k + 1) ≤ 2048; rw [ndS_succ hgk]; omega)
              have HS := (show Hid ((ndS gs (k + 1) : Int) = (ndS gs k : Int) + (g.2.length : Int)) from by show (ndS gs (k + 1) : Int) = _; rw [ndS_succ hgk]; omega)
              clear HV HV2 HU HX HP HQ hn hgk
              have y0 := HRy.out.c0
              have y1 := HRy.out.c1
              go_wp2_with fail
              refine (HCk.out _ HBy.out).mono ?_
              rintro e w3 ⟨rfl, b3⟩
              have HW3 := (show Hid (Below w.heap.size w w3) from HWy.out.trans (b3.mono HWy.out.size))
              have x1 := (HRy.out.later b3).c1
              clear HCk b3 HBy HRy
              go_wp2_with fail
              go_roundw
              case rel => exact ⟨k + 1, by omega, by go_num, by rw [HS.out], HQ2, HF, HW3⟩
              case measure => simp [intOf]; omega
          · have tc : ((T.ck g.2).2 != 0) = true := by rw [bne, beq_eq_false_iff_ne.2 hc]; rfl
            have HF := (show Hid (wrR gs = (T.ck g.2).2) from by show wrR gs = _; rw [HU.out, if_pos hc])
            clear HV HU HX HG HP HQ hc
            generalize hcc : (T.ck g.2).2 = cc at *
            clear hcc
            have y0 := HRy.out.c0
            have y1 := HRy.out.c1
            go_wp2_with fail
            refine (HCk.out _ HBy.out).mono ?_
            rintro e w3 ⟨rfl, b3⟩
            have HW3 := (show Hid (Below w.heap.size w w3) from HWy.out.trans (b3.mono HWy.out.size))
            clear HCk b3 HBy HRy
            go_wp2_with fail
            go_ret
            exact ⟨by rw [HF.out]; rfl, HW3.out⟩
        · have tl : ((gs.length : Int) == 1) = false := beq_eq_false_iff_ne.2 (by omega)
          have hnb : T.nmB g.1 = false := T.nmB_f (fun h => by have := h.1; omega)
          have HF := (show Hid (wrR gs = 6) from by show wrR gs = 6; rw [HX.out, hd, wrGo, if_pos ⟨fun q => hl1 q.2, hnb⟩])
          rw [hnb] at HNm
          clear HX HG HP HQ hl1 hs0 hd hgk HCk
          go_wp2_with fail
          refine (HNm.out _).mono ?_
          rintro e w3 ⟨rfl, b3⟩
          have HW3 := (show Hid (Below w.heap.size w w3) from HW1.out.trans (b3.mono HW1.out.size))
          clear HNm b3 HR HW1
          go_wp2_with fail
          go_ret
          exact ⟨by rw [HF.out]; rfl, HW3.out⟩
      · have te : (g.1.toList == []) = false := by
          have e := T.emp_f hs0
          cases hl : g.1.toList with
          | nil => rw [hl] at e; cases e
          | cons x r => rfl
        have te2 := T.emp_f hs0
        cases hnb : T.nmB g.1 with
        | false =>
          have HF := (show Hid (wrR gs = 6) from by show wrR gs = 6; rw [HX.out, hd, wrGo, if_pos ⟨fun q => hs0 q.1, hnb⟩])
          rw [hnb] at HNm
          clear HX HG HP HQ hs0 hd hgk HCk hnb
          go_wp2_with fail
          refine (HNm.out _).mono ?_
          rintro e w3 ⟨rfl, b3⟩
          have HW3 := (show Hid (Below w.heap.size w w3) from HW1.out.trans (b3.mono HW1.out.size))
          clear HNm b3 HR HW1
          go_wp2_with fail
          go_ret
          exact ⟨by rw [HF.out]; rfl, HW3.out⟩
        | true =>
          rw [hnb] at HNm
          go_wp2_with fail
          refine (HNm.out _).mono ?_
          rintro e w2 ⟨rfl, b2⟩
          have HWy := (show Hid (Below w.heap.size w w2) from HW1.out.trans (b2.mono HW1.out.size))
          have HBy := HWy
          have HRy := (show Hid (RB w2 wr.heap.size g.1 (.slice A2 g.2.length c2)) from HR.out.later b2)
          clear HNm b2 HR HW1
          have HU := (show Hid (wrR gs = if (T.ck g.2).2 ≠ 0 then (T.ck g.2).2 else if 2048 < ndS gs k + g.2.length then 2 else wrGo gs.length (ndS gs k + g.2.length) (gs.drop (k + 1))) from by show wrR gs = _; rw [HX.out, hd, wrGo, if_neg (by rintro ⟨_, q⟩; rw [hnb] at q; cases q)])
          have HV := (show Hid ((T.ck g.2).2 = 0 → wrR gs = if 2048 < ndS gs k + g.2.length then 2 else wrGo gs.length (ndS gs k + g.2.length) (gs.drop (k + 1))) from fun h => by rw [HU.out, if_neg (by rw [h]; simp)])
          -- the body is checked
          by_cases hc : (T.ck g.2).2 = 0
          · have HV2 := (show Hid _ from HV.out hc)
            have tc : ((T.ck g.2).2 != 0) = false := by rw [hc]; rfl
            have hg3 : g.2.length ≤ 2048 := ck_len hc
            have hq := HQ.out
            generalize hcc : (T.ck g.2).2 = cc at *
            clear hcc
            by_cases hn : 2048 < ndS gs k + g.2.length
            · have HF := (show Hid (wrR gs = 2) from by show wrR gs = 2; rw [HV2.out, if_pos hn])
              have tn : (2048 : Int) < (ndS gs k : Int) + (g.2.length : Int) := by omega
              clear HV HV2 HU HX HG HP HQ hn
              have y1 := HRy.out.c1
              go_wp2_with fail
              refine (HCk.out _ HBy.out).mono ?_
              rintro e w3 ⟨rfl, b3⟩
              have HW3 := (show Hid (Below w.heap.size w w3) from HWy.out.trans (b3.mono HWy.out.size))
              have x1 := (HRy.out.later b3).c1
              clear HCk b3 HBy HRy
              go_wp2_with fail
              go_ret
              exact ⟨by rw [HF.out]; rfl, HW3.out⟩
            · have HF := (show Hid (wrR gs = wrGo gs.length (ndS gs (k + 1)) (gs.drop (k + 1))) from by show wrR gs = _; rw [HV2.out, if_neg hn, ndS_succ hgk])
              have tn : ¬ (2048 : Int) < (ndS gs k : Int) + (g.2.length : Int) := by omega
              have HQ2 := (show Hid (ndS gs (k + 1) ≤ 2048) from by show ndS gs (k + 1) ≤ 2048; rw [ndS_succ hgk]; omega)
              have HS := (show Hid ((ndS gs (k + 1) : Int) = (ndS gs k : Int) + (g.2.length : Int)) from by show (ndS gs (k + 1) : Int) = _; rw [ndS_succ hgk]; omega)
              clear HV HV2 HU HX HP HQ hn hgk
              have y1 := HRy.out.c1
              go_wp2_with fail
              refine (HCk.out _ HBy.out).mono ?_
              rintro e w3 ⟨rfl, b3⟩
              have HW3 := (show Hid (Below w.heap.size w w3) from HWy.out.trans (b3.mono HWy.out.size))
              have x1 := (HRy.out.later b3).c1
              clear HCk b3 HBy HRy
              go_wp2_with fail
              go_roundw
              case rel => exact ⟨k + 1, by omega, by go_num, by rw [HS.out], HQ2, HF, HW3⟩
              case measure => simp [intOf]; omega
          · have tc : ((T.ck g.2).2 != 0) = true := by rw [bne, beq_eq_false_iff_ne.2 hc]; rfl
            have HF := (show Hid (wrR gs = (T.ck g.2).2) from by show wrR gs = _; rw [HU.out, if_pos hc])
            clear HV HU HX HG HP HQ hc
            generalize hcc : (T.ck g.2).2 = cc at *
            clear hcc
            have y1 := HRy.out.c1
            go_wp2_with fail
            refine (HCk.out _ HBy.out).mono ?_
            rintro e w3 ⟨rfl, b3⟩
            have HW3 := (show Hid (Below w.heap.size w w3) from HWy.out.trans (b3.mono HWy.out.size))
            clear HCk b3 HBy HRy
            go_wp2_with fail
            go_ret
            exact ⟨by rw [HF.out]; rfl, HW3.out⟩
    · obtain rfl : k = gs.length := by omega
      have HF := (show Hid (wrR gs = 0) from by show wrR gs = 0; rw [HX.out, List.drop_length]; rfl)
      clear HG HP HX
      go_wp2_with fail
      go_ret
      exact ⟨by rw [HF.out]; rfl, HW.out⟩
theorem wrGo_ok {len : Nat} : ∀ (gs : List (ByteArray × List Nd)) (m : Nat), m ≤ 2048 → wrGo len m gs = 0 → (∀ g ∈ gs, (T.ck g.2).2 = 0 ∧ (T.nmB g.1 = true ∨ (g.1.size = 0 ∧ len = 1))) ∧ m + (gs.map fun g => g.2.length).sum ≤ 2048 := by
  intro gs
  induction gs with
  | nil => intro m hm _; exact ⟨(fun g hg => by cases hg), by simpa using hm⟩
  | cons g r ih =>
    intro m hm h
    rw [wrGo] at h
    by_cases q1 : ¬ (g.1.size = 0 ∧ len = 1) ∧ T.nmB g.1 = false
    · rw [if_pos q1] at h; cases h
    rw [if_neg q1] at h
    by_cases q2 : (T.ck g.2).2 ≠ 0
    · rw [if_pos q2] at h; exact absurd h q2
    rw [if_neg q2] at h
    by_cases q3 : 2048 < m + g.2.length
    · rw [if_pos q3] at h; cases h
    rw [if_neg q3] at h
    obtain ⟨h1, h2⟩ := ih (m + g.2.length) (by omega) h
    refine ⟨fun x hx => ?_, by rw [List.map_cons, List.sum_cons]; omega⟩
    rcases List.mem_cons.1 hx with rfl | hx
    · refine ⟨by by_cases z : (T.ck x.2).2 = 0; exact z; exact absurd z q2, ?_⟩
      cases hb : T.nmB x.1 with
      | true => exact .inl rfl
      | false =>
        by_cases z : x.1.size = 0 ∧ len = 1
        · exact .inr z
        · exact absurd ⟨z, hb⟩ q1
    · exact h1 x hx
theorem wr_ok {gs : List (ByteArray × List Nd)} (h : wrR gs = 0) : 1 ≤ gs.length ∧ gs.length ≤ 200 ∧ (∀ g ∈ gs, (T.ck g.2).2 = 0 ∧ (T.nmB g.1 = true ∨ (g.1.size = 0 ∧ gs.length = 1))) ∧ (gs.map fun g => g.2.length).sum ≤ 2048 := by
  unfold wrR at h
  by_cases q1 : gs.length = 0
  · rw [if_pos q1] at h; cases h
  rw [if_neg q1] at h
  by_cases q2 : 200 < gs.length
  · rw [if_pos q2] at h; cases h
  rw [if_neg q2] at h
  obtain ⟨h1, h2⟩ := wrGo_ok gs 0 (by omega) h
  exact ⟨by omega, by omega, h1, by omega⟩
theorem shI_len {L : List Nd} (hr : T.Rt L) : (itT (shI L)).length ≤ 10000 * L.length := by
  have h := sh_tot hr.each L.length (Nat.le_refl _)
  unfold shI
  cases hs : shK L L.length with
  | nil => exact Nat.zero_le _
  | cons x st =>
    rw [hs, totI_cons] at h
    show (itT x.2).length ≤ _
    omega
theorem ln_text (g : ByteArray × List Nd) : itT (lnI g) = (if g.1.size = 0 then [] else g.1.data.toList ++ [32, 60, 45, 32]) ++ itT (shI g.2) := by
  unfold lnI
  rw [itT_app]
  by_cases h : g.1.size = 0
  · rw [if_pos h, if_pos h]; rfl
  · rw [if_neg h, if_neg h]
    rfl
theorem nm_len {s : ByteArray} (h : T.nmB s = true) : s.size ≤ 32 := (isNm_len (nm_of h)).2
theorem gr_len : ∀ (gs : List (ByteArray × List Nd)), (∀ g ∈ gs, (T.ck g.2).2 = 0 ∧ g.1.size ≤ 32) → (grT gs).length ≤ 10000 * (gs.map fun g => g.2.length).sum + 40 * gs.length := by
  intro gs
  induction gs with
  | nil => intro _; exact Nat.zero_le _
  | cons g r ih =>
    intro h
    have h1 := ih (fun x hx => h x (List.mem_cons_of_mem _ hx))
    obtain ⟨h2, h3⟩ := h g List.mem_cons_self
    have h4 := shI_len (T.rt_of h2)
    have e : grT (g :: r) = (itT (lnI g) ++ [10]) ++ grT r := rfl
    rw [e, List.length_append, List.length_append, ln_text, List.length_append, List.map_cons, List.sum_cons]
    have h5 : (if g.1.size = 0 then [] else g.1.data.toList ++ [32, 60, 45, 32] : List UInt8).length ≤ 36 := by
      split
      · exact Nat.zero_le _
      · rw [List.length_append, dlen]; show _ + 4 ≤ _; omega
    have e3 : (g :: r).length = r.length + 1 := rfl
    show _ + 1 + _ ≤ _
    omega
theorem grT_app (a b : List (ByteArray × List Nd)) : grT (a ++ b) = grT a ++ grT b := List.flatMap_append
theorem grT_succ {gs : List (ByteArray × List Nd)} {k : Nat} {g : ByteArray × List Nd} (h : gs[k]? = some g) : grT (gs.take (k + 1)) = grT (gs.take k) ++ (itT (lnI g) ++ [10]) := by
  rw [List.take_add_one, h, grT_app]
  show _ ++ ((itT (lnI g) ++ [10]) ++ []) = _
  rw [List.append_nil]
theorem grT_take (gs : List (ByteArray × List Nd)) (k : Nat) : (grT (gs.take k)).length ≤ (grT gs).length := by
  have h := grT_app (gs.take k) (gs.drop k)
  rw [List.take_append_drop] at h
  rw [h, List.length_append]
  omega
/-- What show's Grammar answers. -/
def grR (gs : List (ByteArray × List Nd)) : ByteArray × Int := if wrR gs = 0 then lnR (grT gs) else (⟨#[]⟩, wrR gs)
end Go.Proofs.YtnpifgcgjgddoaaGreatDoor.N

namespace Go.Proofs.YtnpifgcgjgddoaaGreatDoor.N
open Go.RowKit
set_option maxRecDepth 100000 in
set_option maxHeartbeats 16000000 in
theorem grammar_any (gs : List (ByteArray × List Nd)) (A : Option Addr) (c : Nat) (hl : gs.length ≤ 140737488355328) (hT : ∀ g ∈ gs, g.1.size ≤ 140737488355328 ∧ g.2.length ≤ 140737488355328 ∧ ∀ n ∈ g.2, n.tx.size ≤ 140737488355328) (hw : ∀ g ∈ gs, ∀ n ∈ g.2, NdW n) (w : World) (hp : GrD w A gs) :
    Calls Tryz.prog 16 #[.agg #[.slice A gs.length c]] w fun e w' => e = .returned (.tuple #[.string (grR gs).1, .int .i64 (grR gs).2]) ∧ Below w.heap.size w w' := by
  have HX := (show Hid (GX (w.alloc (.cells #[.slice A gs.length c] 33)) w.heap.size (.slice A gs.length c)) from GX.mk (heap_alloc_new w _))
  have HB0 := (show Hid (Below w.heap.size w (w.alloc (.cells #[.slice A gs.length c] 33))) from below_box _ _)
  have HC : Hid (∀ _ : Unit, Calls Tryz.prog 35 #[.slice A gs.length c] (w.alloc (.cells #[.slice A gs.length c] 33)) fun e w' => e = .returned (.int .i64 (wrR gs)) ∧ Below (w.alloc (.cells #[.slice A gs.length c] 33)).heap.size (w.alloc (.cells #[.slice A gs.length c] 33)) w') := fun _ => checkRules_any gs A c hl hT _ (hp.later (below_box _ _))
  by_cases hc : wrR gs = 0
  · have t0 : (wrR gs != 0) = false := by rw [hc]; rfl
    have HE := (show Hid (grR gs = lnR (grT gs)) from by show grR gs = _; unfold grR; rw [if_pos hc])
    obtain ⟨g1, g2, g3, g4⟩ := wr_ok hc
    have hmf : ∀ (fn : Fn) (first cap : Array Value) (w : World), (Instr.makeFunc fn first cap).run Tryz.prog w = .ok (.func fn first cap) w := fun _ _ _ _ => rfl
    have hsz : ∀ g ∈ gs, (T.ck g.2).2 = 0 ∧ g.1.size ≤ 32 := fun g hg => by
      obtain ⟨q1, q2⟩ := g3 g hg
      refine ⟨q1, ?_⟩
      rcases q2 with q | q
      · exact nm_len q
      · omega
    have hgl := gr_len gs hsz
    have HLe := (show Hid ((grT gs).length ≤ 20490000) from by show (grT gs).length ≤ 20490000; omega)
    have HNe := (show Hid (grT gs ≠ []) from by
      show grT gs ≠ []
      cases gs with
      | nil => simp at g1
      | cons g r =>
        intro e
        have : ((itT (lnI g) ++ [10]) ++ grT r : List UInt8) = [] := e
        simp at this)
    have HP := (show Hid (GrD w A gs) from hp)
    have HG := (show Hid (∀ k, k < gs.length → ∃ g, gs[k]? = some g ∧ T.Rt g.2 ∧ (∀ n ∈ g.2, NdW n) ∧ g.1.size ≤ 32) from fun k hk => ⟨_, List.getElem?_eq_getElem hk, T.rt_of (hsz _ (List.getElem_mem hk)).1, hw _ (List.getElem_mem hk), (hsz _ (List.getElem_mem hk)).2⟩)
    have HTk := (show Hid (gs.take gs.length = gs) from List.take_length)
    clear hc hp hT hw hsz hgl g1 g3 g4
    generalize wrR gs = wv at *
    have y0 := HX.out.cl
    go_enter Tryz.func16, Tryz.ntmps16
    go_wp2_with fail
    refine (HC.out ()).mono ?_
    rintro e w1 ⟨rfl, b1⟩
    have HB1 := (show Hid (Below w.heap.size w w1) from HB0.out.trans (b1.mono HB0.out.size))
    have HX1 := (show Hid (GX w1 w.heap.size (.slice A gs.length c)) from HX.out.below b1)
    have hs1 := HB1.out.size
    have hx1 := HX1.out.lt
    have HF := (show Hid (Lib.IsBuilder 59 5 w1.heap.size w1.heap.size (Lib.byteCells []) (w1.alloc (.cells #[.pointer none, .slice none 0 0] 59))) from Lib.fresh_isBuilder 59 5 w1)
    have HX2 := (show Hid (GX (w1.alloc (.cells #[.pointer none, .slice none 0 0] 59)) w.heap.size (.slice A gs.length c)) from HX1.out.below (below_box _ _))
    have HD := (show Hid (GrD w A gs ∧ Below w.heap.size w (w1.alloc (.cells #[.pointer none, .slice none 0 0] 59))) from ⟨HP.out, HB1.out.alloc hs1 _⟩)
    clear b1 HC HB0 HX HX1 HP y0
    have y1 := HX2.out.cl
    go_wp2_with fail
    generalize hpb : w1.heap.size = pb at *
    generalize w1.alloc (.cells #[.pointer none, .slice none 0 0] 59) = w2 at *
    have H0 := (show Hid (Pg pb w2 w2 (grT (gs.take 0))) from Pg.start HF.out)
    go_loopw [17] (fun t wr => ∃ k : Nat, k ≤ gs.length ∧ t = .int .i64 k ∧ Hid (Pg pb w2 wr (grT (gs.take k)))) (fun t _ => gs.length - (intOf t).toNat)
    case atStart => exact ⟨0, by omega, by go_num, H0⟩
    case round =>
      obtain ⟨k, hk, rfl, HW⟩ := hrel
      clear H0 HF y1
      by_cases hlt : k < gs.length
      · obtain ⟨g, hg, hrt, hwd, hn32⟩ := HG.out k hlt
        obtain ⟨b, o, A2, c2, rfl, lb, x0, x1, r2⟩ := HD.out.1 k g hg
        obtain ⟨gp, op, rfl, lp, nd⟩ := r2 (by rintro e; have := rt_pos hrt; rw [e] at this; simp at this)
        have lgp : gp < pb := by omega
        have key : ∀ b, b < w.heap.size → wr.heap[b]? = w.heap[b]? := fun b hb => (HW.out.bl.block b (by omega)).trans (HD.out.2.block b hb)
        have x0' : wr.cell? ⟨b, o + k * 2, none⟩ = some (.string g.1) := (World.cell?_of_block (a := ⟨b, o + k * 2, none⟩) (key b lb)).trans x0
        have x1' : wr.cell? ⟨b, o + k * 2 + 1, none⟩ = some (.slice (some ⟨gp, op, none⟩) g.2.length c2) := (World.cell?_of_block (a := ⟨b, o + k * 2 + 1, none⟩) (key b lb)).trans x1
        have HNd := (show Hid (T.NdL w2 gp op g.2) from nd.same (HD.out.2.block gp lp))
        have HRt := (show Hid (T.Rt g.2) from hrt)
        have HWd := (show Hid (∀ n ∈ g.2, NdW n) from hwd)
        have hle := grT_take gs (k + 1)
        rw [grT_succ hg, List.length_append, List.length_append, ln_text, List.length_append] at hle
        have hle2 := HLe.out
        have HGs := (show Hid (grT (gs.take (k + 1)) = grT (gs.take k) ++ (itT (lnI g) ++ [10])) from grT_succ hg)
        have z0 : (0 : Int) ≤ (k : Int) := by omega
        have z1 : (k : Int) < (gs.length : Int) := by omega
        have hwr := pg_lt HW.out.i
        have HW3 := (show Hid (Pg pb w2 (wr.alloc (.cells #[.string g.1, .slice (some ⟨gp, op, none⟩) g.2.length c2] 73)) (grT (gs.take k))) from HW.out.later (below_box _ _))
        have HBx := (show Hid (Fx (wr.alloc (.cells #[.string g.1, .slice (some ⟨gp, op, none⟩) g.2.length c2] 73)) pb wr.heap.size #[.string g.1, .slice (some ⟨gp, op, none⟩) g.2.length c2] 73) from ⟨⟨_, heap_alloc_new wr _⟩, by omega, by decide⟩)
        clear x0 x1 key nd hg hrt hwd HG HW r2
        by_cases hs0 : g.1.size = 0
        · have te : (g.1.toList == []) = true := by
            have e := T.emp_t hs0
            rw [List.isEmpty_iff] at e
            rw [e]; rfl
          have te2 := T.emp_t hs0
          have HLn := (show Hid (itT (lnI g) = itT (shI g.2)) from by show itT (lnI g) = _; rw [ln_text, if_pos hs0]; rfl)
          rw [if_pos hs0] at hle
          have HLl := (show Hid ((grT (gs.take k)).length + ((itT (shI g.2)).length + 1) ≤ 20490000) from by show (grT (gs.take k)).length + _ ≤ _; simp only [List.length_nil, List.length_singleton] at hle; omega)
          have HPq := HW3
          clear hle hle2 hs0 HBx
          have HTe : Hid (∀ _ : Unit, Calls Tryz.prog 26 #[.slice (some ⟨gp, op, none⟩) g.2.length c2, telV pb] (wr.alloc (.cells #[.string g.1, .slice (some ⟨gp, op, none⟩) g.2.length c2] 73)) fun e w' => (∃ tb, e = .returned (.pointer (some ⟨tb, 0, none⟩)) ∧ Tl w' pb tb g.2 gp op c2) ∧ Below (wr.alloc (.cells #[.string g.1, .slice (some ⟨gp, op, none⟩) g.2.length c2] 73)).heap.size (wr.alloc (.cells #[.string g.1, .slice (some ⟨gp, op, none⟩) g.2.length c2] 73)) w') := fun _ => newTeller_any g.2 pb gp op c2 (by have := HRt.out.len; omega) HRt.out.each _ (HNd.out.same (HPq.out.bl.block gp lgp)) lgp (pg_lt HPq.out.i)
          go_wp2_with fail
          refine (HTe.out ()).mono ?_
          rintro e w5 ⟨⟨tb, rfl, ht⟩, b5⟩
          have HP5 := (show Hid (Pg pb w2 w5 (grT (gs.take k))) from HPq.out.later b5)
          have HPa : Hid (∀ _ : Unit, Calls Tryz.prog 28 #[.pointer (some ⟨tb, 0, none⟩)] w5 fun e W' => e = .returned (.tuple #[]) ∧ Pg pb w5 W' ((grT (gs.take k)) ++ itT (shI g.2))) := fun _ => pattern_any HRt.out HWd.out w5 _ ht HP5.out.i (by have := HLl.out; omega)
          clear ht b5 HTe HPq
          go_wp2_with fail
          refine (HPa.out ()).mono ?_
          rintro e w6 ⟨rfl, p6⟩
          have HP6 := (show Hid (Pg pb w2 w6 ((grT (gs.take k)) ++ itT (shI g.2))) from HP5.out.trans p6)
          clear p6 HPa HP5
          go_wp2_with fail
          refine (tell_one ⟨#[10]⟩ HP6.out.i (by rw [List.length_append]; have := HLl.out; show _ + 1 ≤ _; omega)).mono ?_
          rintro e w7 ⟨rfl, p7⟩
          have HP7 := (show Hid (Pg pb w2 w7 (grT (gs.take (k + 1)))) from by
            show Pg pb w2 w7 _
            rw [HGs.out]
            have := HP6.out.trans p7
            rw [HLn.out, ← List.append_assoc]
            exact this)
          clear p7 HP6
          go_wp2_with fail
          go_roundw
          case rel => exact ⟨k + 1, by omega, by go_num, HP7⟩
          case measure => simp [intOf]; omega
        · have te : (g.1.toList == []) = false := by
            have e := T.emp_f hs0
            cases hl : g.1.toList with
            | nil => rw [hl] at e; cases e
            | cons x r => rfl
          have te2 := T.emp_f hs0
          have HLn := (show Hid (itT (lnI g) = (g.1.data.toList ++ [32, 60, 45, 32]) ++ itT (shI g.2)) from by show itT (lnI g) = _; rw [ln_text, if_neg hs0])
          rw [if_neg hs0, List.length_append] at hle
          have HLl := (show Hid ((grT (gs.take k)).length + ((g.1.data.toList.length + 4) + ((itT (shI g.2)).length + 1)) ≤ 20490000) from by show (grT (gs.take k)).length + _ ≤ _; simp only [List.length_singleton] at hle; have e4 : ([32, 60, 45, 32] : List UInt8).length = 4 := rfl; omega)
          clear hle hle2 hs0
          have HTw : Hid (∀ _ : Unit, Calls Tryz.prog 27 #[.pointer (some ⟨pb, 0, none⟩), .slice (some ⟨wr.heap.size + 1, 0, none⟩) 2 2] ((wr.alloc (.cells #[.string g.1, .slice (some ⟨gp, op, none⟩) g.2.length c2] 73)).alloc (.cells #[.string g.1, .string ⟨#[32, 60, 45, 32]⟩] 9)) fun e W' => e = .returned (.tuple #[]) ∧ Pg pb (wr.alloc (.cells #[.string g.1, .slice (some ⟨gp, op, none⟩) g.2.length c2] 73)) W' (grT (gs.take k) ++ (g.1.data.toList ++ [32, 60, 45, 32]))) := fun _ => by
            have h := tell_two g.1 ⟨#[32, 60, 45, 32]⟩ HW3.out.i (by
              have := HLl.out
              rw [List.length_append]
              have e4 : (⟨#[32, 60, 45, 32]⟩ : ByteArray).data.toList.length = 4 := rfl
              omega)
            rw [World.size_alloc] at h
            exact h
          go_wp2_with fail
          refine (HTw.out ()).mono ?_
          rintro e w4 ⟨rfl, p4⟩
          have HPq := (show Hid (Pg pb w2 w4 (grT (gs.take k) ++ (g.1.data.toList ++ [32, 60, 45, 32]))) from HW3.out.trans p4)
          have d1 : w4.cell? ⟨wr.heap.size, 1, none⟩ = some (.slice (some ⟨gp, op, none⟩) g.2.length c2) := (HBx.out.keep p4.k).cell 1
          clear p4 HW3 HBx HTw
          have HTe : Hid (∀ _ : Unit, Calls Tryz.prog 26 #[.slice (some ⟨gp, op, none⟩) g.2.length c2, telV pb] w4 fun e w' => (∃ tb, e = .returned (.pointer (some ⟨tb, 0, none⟩)) ∧ Tl w' pb tb g.2 gp op c2) ∧ Below w4.heap.size w4 w') := fun _ => newTeller_any g.2 pb gp op c2 (by have := HRt.out.len; omega) HRt.out.each _ (HNd.out.same (HPq.out.bl.block gp lgp)) lgp (pg_lt HPq.out.i)
          go_wp2_with fail
          refine (HTe.out ()).mono ?_
          rintro e w5 ⟨⟨tb, rfl, ht⟩, b5⟩
          have HP5 := (show Hid (Pg pb w2 w5 (grT (gs.take k) ++ (g.1.data.toList ++ [32, 60, 45, 32]))) from HPq.out.later b5)
          have HPa : Hid (∀ _ : Unit, Calls Tryz.prog 28 #[.pointer (some ⟨tb, 0, none⟩)] w5 fun e W' => e = .returned (.tuple #[]) ∧ Pg pb w5 W' ((grT (gs.take k) ++ (g.1.data.toList ++ [32, 60, 45, 32])) ++ itT (shI g.2))) := fun _ => pattern_any HRt.out HWd.out w5 _ ht HP5.out.i (by rw [List.length_append, List.length_append]; have := HLl.out; show _ + (_ + 4) ≤ _; omega)
          clear ht b5 HTe HPq
          go_wp2_with fail
          refine (HPa.out ()).mono ?_
          rintro e w6 ⟨rfl, p6⟩
          have HP6 := (show Hid (Pg pb w2 w6 ((grT (gs.take k) ++ (g.1.data.toList ++ [32, 60, 45, 32])) ++ itT (shI g.2))) from HP5.out.trans p6)
          clear p6 HPa HP5
          go_wp2_with fail
          refine (tell_one ⟨#[10]⟩ HP6.out.i (by rw [List.length_append]; rw [List.length_append, List.length_append]; have := HLl.out; show _ + (_ + 4) + _ + 1 ≤ _; omega)).mono ?_
          rintro e w7 ⟨rfl, p7⟩
          have HP7 := (show Hid (Pg pb w2 w7 (grT (gs.take (k + 1)))) from by
            show Pg pb w2 w7 _
            rw [HGs.out]
            have := HP6.out.trans p7
            rw [HLn.out, ← List.append_assoc, ← List.append_assoc]
            exact this)
          clear p7 HP6
          go_wp2_with fail
          go_roundw
          case rel => exact ⟨k + 1, by omega, by go_num, HP7⟩
          case measure => simp [intOf]; omega
      · obtain rfl : k = gs.length := by omega
        have HWh : Hid (∀ _ : Unit, Calls Tryz.prog 29 #[.pointer (some ⟨pb, 0, none⟩)] wr fun e w' => e = .returned (.tuple #[.string (lnR (grT gs)).1, .int .i64 (lnR (grT gs)).2]) ∧ Below pb wr w') := fun _ => by
          have h := HW.out
          rw [HTk.out] at h
          exact whole_any pb _ wr h.i HNe.out (by have := HLe.out; omega)
        have hle : w.heap.size ≤ pb := by omega
        clear HG
        go_wp2_with fail
        refine (HWh.out ()).mono ?_
        rintro e w4 ⟨rfl, b4⟩
        have HB4 := (show Hid (Below w.heap.size w w4) from (HD.out.2.trans (HW.out.bl.mono hle)).trans (b4.mono hle))
        clear b4 HWh HW HD
        go_wp2_with fail
        go_ret2
        exact ⟨by rw [HE.out]; rfl, HB4.out⟩
  · have t0 : (wrR gs != 0) = true := by rw [bne, beq_eq_false_iff_ne.2 hc]; rfl
    have HE := (show Hid (grR gs = (⟨#[]⟩, wrR gs)) from by show grR gs = _; unfold grR; rw [if_neg hc])
    clear hp hT hw hc
    generalize wrR gs = wv at *
    have y0 := HX.out.cl
    go_enter Tryz.func16, Tryz.ntmps16
    go_wp2_with fail
    refine (HC.out ()).mono ?_
    rintro e w1 ⟨rfl, b1⟩
    have HB1 := (show Hid (Below w.heap.size w w1) from HB0.out.trans (b1.mono HB0.out.size))
    clear b1 HC HX HB0 y0
    go_wp2_with fail
    go_ret2
    exact ⟨by rw [HE.out]; rfl, HB1.out⟩
end Go.Proofs.YtnpifgcgjgddoaaGreatDoor.N

namespace Go.Proofs.YtnpifgcgjgddoaaGreatDoor.T
open Go.ChangeShapes Go.WideShapes Go.ChangeAt Go.RowKit
theorem Tryz.cells51 : Tryz.prog.cellsOf 51 = 7 := by kernel_rfl
theorem Tryz.cells49 : Tryz.prog.cellsOf 49 = 4 := by kernel_rfl
theorem Tryz.cells47 : Tryz.prog.cellsOf 47 = 1 := by kernel_rfl
theorem Tryz.cells9 : Tryz.prog.cellsOf 9 = 1 := by kernel_rfl
theorem Tryz.cells3 : Tryz.prog.cellsOf 3 = 1 := by kernel_rfl
theorem Tryz.bytes51 : Tryz.prog.bytesOf 51 = 64 := by kernel_rfl

theorem sized_at {H : Type} {P : Program} {ts : List TypeId} {ds : List (DataW H)} (h : (DataW.weightsEach P ts ds).all (· ≤ reachBytes) = true) {j : Nat} {t : TypeId} {d : DataW H} (ht : ts[j]? = some t) (hd : ds[j]? = some d) : ∀ n ∈ d.weights P t, n ≤ reachBytes := fun n hn => by
  have := List.all_eq_true.1 h _ (DataW.weights_mem_each ht hd n hn)
  simpa using this
theorem weights_all {H : Type} (P : Program) (e : TypeId) : ∀ (l : List (DataW H)) (d : DataW H), d ∈ l → ∀ n ∈ d.weights P e, n ∈ DataW.weightsAll P e l
  | [], _, h, _, _ => by cases h
  | a :: l, d, h, n, hn => by
    simp only [DataW.weightsAll, List.mem_append]
    rcases List.mem_cons.1 h with rfl | h
    · exact .inl hn
    · exact .inr (weights_all P e l d h n hn)

theorem list7 {α : Type} {l : List α} (h : l.length = 7) : ∃ a b c d e f g, l = [a, b, c, d, e, f, g] := by
  match l, h with
  | [a, b, c, d, e, f, g], _ => exact ⟨a, b, c, d, e, f, g, rfl⟩
theorem wf64 {n : Int} (h : (Lit.int .u64 n).wf = true) : 0 ≤ n ∧ n < 18446744073709551616 := by
  have := bounds_u64 h
  omega
/-- The words of a node's set are words. -/
def SeW (n : Nd) : Prop := (0 ≤ n.s0 ∧ n.s0 < 18446744073709551616) ∧ (0 ≤ n.s1 ∧ n.s1 < 18446744073709551616) ∧ (0 ≤ n.s2 ∧ n.s2 < 18446744073709551616) ∧ (0 ≤ n.s3 ∧ n.s3 < 18446744073709551616)
set_option maxRecDepth 100000 in
theorem node_in {H : Type} {enc : TypeId × Value → H} {W : World} {held : Bool} {n : Nat} {cs : List Value} {x : DataW H × List MemPlace} (h : DataW.trod enc Tryz.prog W 0 (fun _ => true) held n 51 cs = some x) :
    ∃ nd : Nd, cs = ndV nd ∧ nd.tx.size ∈ x.1.weights Tryz.prog 51 ∧ SeW nd := by
  obtain ⟨y0, y1, y2, y3, k, hx, hl, h0, h1, h2, h3⟩ := Go.Joins.trod_struct4 Tryz.underlying51 h
  rw [Tryz.cells51] at hl
  obtain ⟨a, b, c, d, e, f, g, rfl⟩ := list7 hl
  simp only [Tryz.cells3, Tryz.cells9, Tryz.cells49, List.drop_zero, List.take_succ_cons, List.take_zero, List.drop_succ_cons] at h0 h1 h2 h3
  obtain ⟨N0, e0, _, _⟩ := DataW.trod_int Tryz.underlying3 h0
  obtain ⟨N1, e1, _, _⟩ := DataW.trod_int Tryz.underlying3 h1
  obtain ⟨s, e2, hs, _⟩ := DataW.trod_string Tryz.underlying9 h2
  obtain ⟨z0, z1, z2, z3, k2, _, g0, g1, g2, g3⟩ := trod_array4 Tryz.underlying49 Tryz.cells47 h3
  obtain ⟨M0, f0, _, m0⟩ := DataW.trod_int Tryz.underlying47 g0
  obtain ⟨M1, f1, _, m1⟩ := DataW.trod_int Tryz.underlying47 g1
  obtain ⟨M2, f2, _, m2⟩ := DataW.trod_int Tryz.underlying47 g2
  obtain ⟨M3, f3, _, m3⟩ := DataW.trod_int Tryz.underlying47 g3
  cases e0; cases e1; cases e2; cases f0; cases f1; cases f2; cases f3
  refine ⟨⟨N0, N1, s, M0, M1, M2, M3⟩, rfl, ?_, wf64 m0, wf64 m1, wf64 m2, wf64 m3⟩
  rw [hx, hs]
  simp only [DataW.weights, Tryz.underlying51]
  simp only [DataW.weightsEach, DataW.weights, List.map_cons, List.mem_append, List.mem_singleton]
  right; right; left
  show s.size = s.data.toList.length
  rw [Array.length_toList]
  rfl

/-- A pattern that comes in. -/
theorem open_pat {H : Type} {enc : TypeId × Value → H} {W : World} {held : Bool} {v : Value} {d : DataW H} {p : List MemPlace} (h : DataW.Trod enc Tryz.prog W 0 (fun _ => true) held 23 v d p) (hv : ∃ a l c, v = .slice a l c) :
    ∃ A c L, v = .slice A L.length c ∧ RdN W A L ∧ (A = none → c = 0 ∧ L = []) ∧ ((∀ n ∈ d.weights Tryz.prog 23, n ≤ reachBytes) → L.length * 64 ≤ 140737488351232 ∧ ∀ n ∈ L, n.tx.size ≤ 140737488351232) ∧ ∀ n ∈ L, SeW n := by
  obtain ⟨fuel, hf⟩ := h
  obtain ⟨a0, len0, cap0, rfl⟩ := hv
  have hr : reachBytes = 140737488351232 := by decide
  rcases Go.Deep.open_slice Tryz.underlying23 hf with ⟨hc, hx⟩ | ⟨a, len, cap, m, n, D, Pl, hc, _, hl, hm, hmm, hx, hall⟩
  · have hc : [Value.slice a0 len0 cap0] = [.slice none 0 0] := hc
    cases hc
    exact ⟨none, 0, [], rfl, fun q => absurd rfl q, fun _ => ⟨rfl, rfl⟩, fun _ => ⟨by simp, fun n hn => by cases hn⟩, fun n hn => by cases hn⟩
  · have hc : [Value.slice a0 len0 cap0] = [.slice (some a) len cap] := hc
    cases hc
    simp only [if_true] at hmm
    subst hmm
    have hlm : len0 ≤ m := hl
    have each : ∀ i, i < len0 → ∃ nd : Nd, (∀ j u, (ndV nd)[j]? = some u → W.cell? (a.add (i * 7 + j)) = some u) ∧ nd.tx.size ∈ (D i).weights Tryz.prog 51 ∧ SeW nd := by
      intro i hi
      obtain ⟨cs', h1, h2⟩ := hall i (by omega)
      rw [Tryz.cells51] at h1
      obtain ⟨_, hlen, hcell⟩ := World.cells?_some h1
      obtain ⟨nd, rfl, hw⟩ := node_in h2
      refine ⟨nd, fun j u hj => ?_, hw⟩
      have hj7 : j < 7 := by
        by_cases q : j < 7
        · exact q
        · rw [List.getElem?_eq_none (by show (ndV nd).length ≤ j; show 7 ≤ j; omega)] at hj; cases hj
      have e := hcell j (by rw [show (ndV nd).length = 7 from rfl] at *; omega)
      rw [Go.Deep.add_add] at e
      rw [e]
      exact hj
    obtain ⟨F, hF⟩ : ∃ F : Nat → Nd, ∀ i, i < len0 → (∀ j u, (ndV (F i))[j]? = some u → W.cell? (a.add (i * 7 + j)) = some u) ∧ (F i).tx.size ∈ (D i).weights Tryz.prog 51 ∧ SeW (F i) :=
      ⟨fun i => if h : i < len0 then Classical.choose (each i h) else ⟨0, 0, ⟨#[]⟩, 0, 0, 0, 0⟩, fun i h => by simp only [dif_pos h]; exact Classical.choose_spec (each i h)⟩
    refine ⟨some a, m, (List.range len0).map F, by simp, fun hne => ?_, fun q => (by cases q), fun hw => ?_, fun n hn => ?_⟩
    · have h0 : 0 < len0 := by
        by_cases q : 0 < len0
        · exact q
        · have : len0 = 0 := by omega
          subst this
          exact absurd rfl hne
      obtain ⟨g, off, spot⟩ := a
      have hspot : spot = none := by simpa [Addr.add] using World.cell?_spot ((hF 0 h0).1 0 _ rfl)
      subst hspot
      refine ⟨g, off, rfl, World.block_lt_of_cell? W _ ((hF 0 h0).1 0 _ rfl), fun j nd hj => ?_⟩
      rw [List.getElem?_map] at hj
      have hj2 : j < len0 := by
        by_cases q : j < len0
        · exact q
        · rw [List.getElem?_eq_none (by simp; omega)] at hj; cases hj
      rw [List.getElem?_range hj2] at hj
      cases hj
      have key : ∀ i u, (ndV (F j))[i]? = some u → W.cell? ⟨g, off + j * 7 + i, none⟩ = some u := fun i u hu => by
        have e := (hF j hj2).1 i u hu
        rw [Addr.add_lit, ← Nat.add_assoc] at e
        exact e
      exact ⟨key 0 _ rfl, key 1 _ rfl, key 2 _ rfl, key 3 _ rfl, key 4 _ rfl, key 5 _ rfl, key 6 _ rfl⟩
    · have hd : d = .slice ((List.range len0).map D) ((List.range (m - len0)).map fun j => D (len0 + j)) := congrArg Prod.fst hx
      rw [hd] at hw
      simp only [DataW.weights, Tryz.underlying23] at hw
      refine ⟨?_, fun nd hnd => ?_⟩
      · have := hw _ (List.mem_cons_self ..)
        rw [Tryz.bytes51, hr] at this
        simp only [List.length_map, List.length_range] at this ⊢
        omega
      · obtain ⟨i, hi, rfl⟩ := List.mem_map.1 hnd
        have hi2 := List.mem_range.1 hi
        have := hw _ (List.mem_cons_of_mem _ (List.mem_append_left _ (weights_all _ 51 _ (D i) (List.mem_map.2 ⟨i, hi, rfl⟩) _ (hF i hi2).2.1)))
        rw [hr] at this
        exact this
    · obtain ⟨i, hi, rfl⟩ := List.mem_map.1 hn
      exact (hF i (List.mem_range.1 hi)).2.2
end Go.Proofs.YtnpifgcgjgddoaaGreatDoor.T

namespace Go.Proofs.YtnpifgcgjgddoaaGreatDoor.N
open Go.ChangeShapes Go.WideShapes Go.ChangeAt Go.RowKit
theorem nw_of {n : Nd} (h : T.SeW n) : NdW n := ⟨h.1, h.2.1, h.2.2.1, h.2.2.2⟩
end Go.Proofs.YtnpifgcgjgddoaaGreatDoor.N
