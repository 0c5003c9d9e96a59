/- DERIVED. Plain mathematics and walks, laid together (10). -/
import Derived.Lib.Builder
import Derived.RangeFuncBox
import Derived.Laws.OwnMore
import Derived.Lib.AppendIntMem
import Derived.Laws.AppendOwnNone
import Derived.Deep.AppendLies
import Derived.Deep.SlicePairs
import Derived.Lib.SmallJoins
import Derived.Laws.IdiomArrays
import Derived.SizedLaws
import Derived.OpenShut
import Derived.ShutString
import Derived.ChangeOld
import Derived.Test.YthffklhojdldkaaGreatDoorCards
import Derived.Test.YthffklhojdldkaaGreatDoorTie
import Derived.WalkKit
import Derived.ProofKit
import Derived.ChangeSame
import Derived.FnData
import Derived.Deep.DeepHandedRow
import Derived.Lib.LaidTab
import Derived.Test.YthffklhojdldkaaGreatDoorTb09
namespace Go.Proofs.YthffklhojdldkaaGreatDoor.Q
open Go.RowKit
theorem Tryz.sizeB : (Tryz.prog.info? 50).map (·.size) = some 2 := by kernel_rfl

set_option maxHeartbeats 1000000 in
set_option maxRecDepth 100000 in
theorem check_used (b : Nat) (w : World) (h0 : w.cell? ⟨b, 0, none⟩ = some (.pointer (some ⟨b, 0, none⟩))) :
    Calls Tryz.prog 34 #[.pointer (some ⟨b, 0, none⟩)] w fun e w' => e = .returned (.tuple #[]) ∧ w' = w := by
  obtain ⟨j, hj, hjs⟩ := Option.map_eq_some_iff.1 Tryz.sizeB
  go_enter Tryz.func34, Tryz.ntmps34
  go_wp2
  rw [Lib.run_neq_ptr_same w _ Tryz.underlying47 hj]
  go_wp2
  go_end0
  exact ⟨rfl, rfl⟩

set_option maxHeartbeats 1000000 in
set_option maxRecDepth 100000 in
theorem check_fresh (b : Nat) (w : World) (h0 : w.cell? ⟨b, 0, none⟩ = some (.pointer none)) (hsh : w.shape? b = some (50, 2)) (hfz : w.frozen? ⟨b, 0, none⟩ = false) :
    Calls Tryz.prog 34 #[.pointer (some ⟨b, 0, none⟩)] w fun e w' => e = .returned (.tuple #[]) ∧ w' = w.setCell ⟨b, 0, none⟩ (.pointer (some ⟨b, 0, none⟩)) := by
  obtain ⟨j, hj, hjs⟩ := Option.map_eq_some_iff.1 Tryz.sizeB
  go_enter Tryz.func34, Tryz.ntmps34
  go_wp2
  rw [Lib.run_to_unsafe w ⟨b, 0, none⟩ Tryz.underlying47 Tryz.underlying86 hj (by rw [hjs]; decide) hsh (Nat.zero_lt_succ 1)]
  simp only [Result.andThen]
  rw [Oper.upon_value]
  go_wp2
  rw [run_callFunc_extern Tryz.func64 (by kernel_rfl) (by kernel_rfl) (by kernel_rfl) (e := Extern.AbiNoEscape.same) (by kernel_rfl)]
  rw [Lib.run_noEscape]
  simp only [Result.andThen]
  rw [Oper.upon_value]
  go_wp2
  rw [Lib.run_from_unsafe w ⟨b, 0, none⟩ Tryz.underlying86 Tryz.underlying47 hj hsh (by kernel_rfl)]
  simp only [Result.andThen]
  rw [Oper.upon_value]
  go_wp2
  go_end0
  exact ⟨rfl, rfl⟩

/-- Whatever is no row of bytes, and not block b, is as it was. -/
structure KeepT (b : Nat) (w w' : World) : Prop where
  size : w.heap.size ≤ w'.heap.size
  block : ∀ k, k < w.heap.size → k ≠ b → (∀ c fr, w.heap[k]? ≠ some (.cells c 5 fr)) → w'.heap[k]? = w.heap[k]?
theorem KeepT.refl (b : Nat) (w : World) : KeepT b w w := ⟨Nat.le_refl _, fun _ _ _ _ => rfl⟩
theorem KeepT.trans {b : Nat} {x y z : World} (h : KeepT b x y) (k : KeepT b y z) : KeepT b x z :=
  ⟨Nat.le_trans h.size k.size, fun j hj hb ht => by
    have e := h.block j hj hb ht
    exact (k.block j (Nat.lt_of_lt_of_le hj h.size) hb (fun c fr => by rw [e]; exact ht c fr)).trans e⟩
theorem KeepT.setCell (b j : Nat) (w : World) (u : Value) : KeepT b w (w.setCell ⟨b, j, none⟩ u) :=
  ⟨by simp [World.setCell], fun k _ hk _ => Below.heap_setCell _ _ _ _ hk⟩
theorem KeepT.alloc (b : Nat) (w : World) (o : Obj) : KeepT b w (w.alloc o) := ⟨by simp, fun k hk _ _ => Below.heap_alloc _ _ _ hk⟩
theorem KeepT.grown {b : Nat} {w w' : World} {base : Nat} {v : Value} {n : Nat} {xs : List Value} (ho : w.ownsRow base 5 1 v n xs) (hg : w.grownBy w' v.ownBlock) : KeepT b w w' :=
  ⟨hg.size, fun k hk _ ht => hg.block k hk (fun e => by
    rcases ho.2 with ⟨rfl, _⟩ | ⟨g, cap, cur, rfl, _, hgb, _⟩
    · cases e
    · obtain rfl : k = g := by simpa [Value.ownBlock] using e
      exact ht _ _ hgb)⟩
theorem KeepT.below {b : Nat} {w w' : World} (h : Below w.heap.size w w') : KeepT b w w' := ⟨h.size, fun k hk _ _ => h.block k hk⟩

theorem check_any (b : Nat) (bs : List Value) (w : World) (h : Lib.IsBuilder 50 5 b b bs w) :
    Calls Tryz.prog 34 #[.pointer (some ⟨b, 0, none⟩)] w fun e w' => e = .returned (.tuple #[]) ∧ Lib.BuilderAt 50 5 b b (.pointer (some ⟨b, 0, none⟩)) bs w' ∧ Below b w w' ∧ KeepT b w w' := by
  rcases h with h | h
  · refine (check_fresh b w h.cell0 h.shape h.frozen0).mono ?_
    rintro e w' ⟨rfl, rfl⟩
    exact ⟨rfl, h.used _, (Below.refl b w).setCell (p := ⟨b, 0, none⟩) h.1 _, KeepT.setCell b 0 w _⟩
  · refine (check_used b w h.cell0).mono ?_
    rintro e w' ⟨rfl, rfl⟩
    exact ⟨rfl, h, Below.refl b _, KeepT.refl b _⟩

set_option maxHeartbeats 1000000 in
set_option maxRecDepth 100000 in
theorem writeByte_any (b : Nat) (bs : List Value) (c : Int) (w : World) (h : Lib.IsBuilder 50 5 b b bs w) (hlen : bs.length + 1 ≤ 140737488355328) :
    Calls Tryz.prog 16 #[.pointer (some ⟨b, 0, none⟩), .int .u8 c] w fun e w' => e = .returned .nilIface ∧ Lib.IsBuilder 50 5 b b (bs ++ [.int .u8 c]) w' ∧ Below b w w' ∧ KeepT b w w' := by
  obtain ⟨i0, hi, hz0, hz1, hz2⟩ := info_parts Tryz.info5
  go_enter Tryz.func16, Tryz.ntmps16
  go_wp2_with fail
  refine (check_any b bs _ h).mono ?_
  rintro e w1 ⟨rfl, h1, hb1, hk1⟩
  have hlt := h1.lt
  obtain ⟨hB, v, hbk, hown, hne⟩ := h1
  have c0 : w1.cell? ⟨b, 0, none⟩ = some (.pointer (some ⟨b, 0, none⟩)) := by rw [Lib.cell_of_heap hbk]; rfl
  have c1 : w1.cell? ⟨b, 1, none⟩ = some v := by rw [Lib.cell_of_heap hbk]; rfl
  go_wp2_with (at_builtin; refine wpList_append_own _ rfl _ _ 48 rfl b 5 i0 (.int .u8 0) 1 1 Tryz.underlying48 hi hz0 hz1 hz2 rfl (by decide) _ _ _ rfl (hown.alloc _) ⟨w1.heap.size, 0, none⟩ 1 1 [.int .u8 c] rfl rfl (cell_one_new _ _ _) ?c2 ?c3 ?c4 ?c5 ?_)
  case c2 => intro u hu; simp at hu; subst hu; rfl
  case c3 => unfold maxLen; omega
  case c4 => omega
  case c5 => simp; omega
  intro v' w2 hown' hgrow _
  have hb2 : w2.heap[b]? = some (.cells #[.pointer (some ⟨b, 0, none⟩), v] 50 (0, 0)) := by
    rw [hgrow.block b (by simp; omega) (fun e => hne e.symm), Lib.alloc_old w1 _ b hlt]
    exact hbk
  have d0 : w2.cell? ⟨b, 0, none⟩ = some (.pointer (some ⟨b, 0, none⟩)) := by rw [Lib.cell_of_heap hb2]; rfl
  have d1 : w2.cell? ⟨b, 1, none⟩ = some v := by rw [Lib.cell_of_heap hb2]; rfl
  have f1 : w2.frozen? ⟨b, 1, none⟩ = false := Lib.frozen_of_heap hb2 1
  obtain ⟨g, cap, rfl⟩ := ownsRow_succ hown'
  go_wp2
  go_ret
  refine ⟨rfl, .inr ?_, ?_, ?_⟩
  · exact Lib.BuilderAt.put (T := 50) (e := 5) hB hb2 (bs' := bs ++ [.int .u8 c]) (by simpa using hown') (by decide)
  · exact ((hb1.alloc (by omega) _).grown hgrow (by simp; omega) (fun k hk => (hown.lt k hk).1)).setCell (p := ⟨b, 1, none⟩) hB _
  · exact ((hk1.trans (KeepT.alloc b w1 _)).trans (KeepT.grown (hown.alloc _) hgrow)).trans (KeepT.setCell b 1 w2 _)

set_option maxHeartbeats 1000000 in
set_option maxRecDepth 100000 in
theorem writeString_any (b : Nat) (bs : List Value) (s : ByteArray) (w : World) (h : Lib.IsBuilder 50 5 b b bs w) (hlen : bs.length + s.size ≤ 140737488355328) :
    Calls Tryz.prog 17 #[.pointer (some ⟨b, 0, none⟩), .string s] w fun e w' => e = .returned (.tuple #[.int .i64 s.size, .nilIface]) ∧ Lib.IsBuilder 50 5 b b (bs ++ Lib.strCells s) w' ∧ Below b w w' ∧ KeepT b w w' := by
  obtain ⟨i0, hi, hz0, hz1, hz2⟩ := info_parts Tryz.info5
  go_enter Tryz.func17, Tryz.ntmps17
  go_wp2_with fail
  refine (check_any b bs _ h).mono ?_
  rintro e w1 ⟨rfl, h1, hb1, hk1⟩
  have hlt := h1.lt
  obtain ⟨hB, v, hbk, hown, hne⟩ := h1
  have c0 : w1.cell? ⟨b, 0, none⟩ = some (.pointer (some ⟨b, 0, none⟩)) := by rw [Lib.cell_of_heap hbk]; rfl
  have c1 : w1.cell? ⟨b, 1, none⟩ = some v := by rw [Lib.cell_of_heap hbk]; rfl
  go_wp2_with (at_builtin; refine Lib.wpList_append_own_string _ rfl _ _ 48 9 rfl b 5 i0 Tryz.underlying48 Tryz.underlying9 hi hz0 hz1 hz2 _ _ _ rfl hown s rfl ?c3 ?c4 ?c5 ?_)
  case c3 => unfold maxLen; omega
  case c4 => omega
  case c5 => omega
  intro v' w2 hown' hgrow _
  have hb2 : w2.heap[b]? = some (.cells #[.pointer (some ⟨b, 0, none⟩), v] 50 (0, 0)) := by
    rw [hgrow.block b hlt (fun e => hne e.symm)]
    exact hbk
  have d0 : w2.cell? ⟨b, 0, none⟩ = some (.pointer (some ⟨b, 0, none⟩)) := by rw [Lib.cell_of_heap hb2]; rfl
  have d1 : w2.cell? ⟨b, 1, none⟩ = some v := by rw [Lib.cell_of_heap hb2]; rfl
  have f1 : w2.frozen? ⟨b, 1, none⟩ = false := Lib.frozen_of_heap hb2 1
  obtain ⟨ao, n', cap, rfl⟩ : ∃ ao n' cap, v' = .slice ao n' cap := by
    rcases hown'.2 with ⟨hv, _⟩ | ⟨g, cap, cur, hv, _⟩
    · exact ⟨_, _, _, hv⟩
    · exact ⟨_, _, _, hv⟩
  go_wp2
  go_ret2
  refine ⟨rfl, .inr ?_, ?_, ?_⟩
  · exact Lib.BuilderAt.put (T := 50) (e := 5) hB hb2 (bs' := bs ++ Lib.strCells s) (by simpa [Lib.strCells_length] using hown') (by decide)
  · exact (hb1.grown hgrow (by omega) (fun k hk => (hown.lt k hk).1)).setCell (p := ⟨b, 1, none⟩) hB _
  · exact (hk1.trans (KeepT.grown hown hgrow)).trans (KeepT.setCell b 1 w2 _)
end Go.Proofs.YthffklhojdldkaaGreatDoor.Q

namespace Go.Proofs.YthffklhojdldkaaGreatDoor.Q
open Go.RowKit
theorem below1 (w : World) (o : Obj) : Below w.heap.size w (w.alloc o) := (Below.refl _ _).alloc (Nat.le_refl _) _
theorem ret_str {a b : ByteArray} (h : a = b) : Ending.returned (.string a) = .returned (.string b) := by rw [h]
theorem lit_own (l : List Int) (hl : l.length ≤ 100) (w : World) : (w.alloc (.cells (l.map (Value.int .u8)).toArray 5)).ownsRow w.heap.size 5 1 (.slice (some ⟨w.heap.size, 0, none⟩) l.length l.length) l.length (l.map (Value.int .u8)) := by
  have h := World.ownsRow_lit (e := 5) (size := 1) (base := w.heap.size) w (l.map (Value.int .u8)).toArray l.length (Nat.le_refl _) (by unfold maxLen; omega) (by simp)
  simpa using h
theorem conv1 (c : Int) (w : World) : (convert 48 9 (.slice (some ⟨w.heap.size, 0, none⟩) 1 1)).run Tryz.prog (w.alloc (.cells #[.int .u8 c] 5)) = .ok (.string (asText [c])) (w.alloc (.cells #[.int .u8 c] 5)) :=
  text_own (l := [c]) (lit_own [c] (by simp) w)
theorem conv2 (c d : Int) (w : World) : (convert 48 9 (.slice (some ⟨w.heap.size, 0, none⟩) 2 2)).run Tryz.prog (w.alloc (.cells #[.int .u8 c, .int .u8 d] 5)) = .ok (.string (asText [c, d])) (w.alloc (.cells #[.int .u8 c, .int .u8 d] 5)) :=
  text_own (l := [c, d]) (lit_own [c, d] (by simp) w)
theorem conv4d (a b c d : Int) (w : World) : (convert 48 9 (.slice (some ⟨w.heap.size, 0, none⟩) 4 4)).run Tryz.prog (w.alloc (.cells #[.int .u8 a, .int .u8 b, .int .u8 c, .int .u8 d] 5)).drew = .ok (.string (asText [a, b, c, d])) (w.alloc (.cells #[.int .u8 a, .int .u8 b, .int .u8 c, .int .u8 d] 5)).drew :=
  text_own (l := [a, b, c, d]) (w := (w.alloc (.cells #[.int .u8 a, .int .u8 b, .int .u8 c, .int .u8 d] 5)).drew) (base := w.heap.size) (lit_own [a, b, c, d] (by simp) w)
theorem dig_of : ∀ m : Fin 16, ((digs[m.val]'m.isLt).toNat : Int) = hexD (m.val : Int) := by decide +kernel

set_option maxRecDepth 100000 in
set_option maxHeartbeats 1000000 in
theorem showB_hex (b : Nat) (hb : b < 256) (w : World) (h1 : ((b : Int) == 10) = false) (h2 : ((b : Int) == 13) = false) (h3 : ((b : Int) == 9) = false) (h4 : ((b : Int) == 39) = false) (h5 : ((b : Int) == 92) = false) (h6 : ¬ (32 ≤ (b : Int) ∧ (b : Int) ≤ 126)) :
    Calls Tryz.prog 66 #[.int .u8 b] w fun e w' => e = .returned (.string (asText [92, 120, hexD ((b : Int) / 16), hexD ((b : Int) % 16)])) ∧ Below w.heap.size w w' := by
  have t1 : IntKind.u8.wrap ((b : Int) / 16) = ((b / 16 : Nat) : Int) := by rw [IntKind.wrap_u8']; omega
  have t2 : IntKind.u8.wrap ((b : Int) % 16) = ((b % 16 : Nat) : Int) := by rw [IntKind.wrap_u8']; omega
  have t3 : (b : Int) / 16 = ((b / 16 : Nat) : Int) := by omega
  have t4 : (b : Int) % 16 = ((b % 16 : Nat) : Int) := by omega
  have k0 : (0 : Int) ≤ ((b / 16 : Nat) : Int) := by omega
  have k1 : ((b / 16 : Nat) : Int) < 16 := by omega
  have k2 : (0 : Int) ≤ ((b % 16 : Nat) : Int) := by omega
  have k3 : ((b % 16 : Nat) : Int) < 16 := by omega
  have q1 : b / 16 < 16 := by omega
  have q2 : b % 16 < 16 := by omega
  have hcv := conv4d 92 120 ((digs[b / 16]'q1).toNat : Int) ((digs[b % 16]'q2).toNat : Int) w
  have HR : Hid (asText [92, 120, hexD ((b : Int) / 16), hexD ((b : Int) % 16)] = asText [92, 120, ((digs[b / 16]'q1).toNat : Int), ((digs[b % 16]'q2).toNat : Int)]) := (by
    show _ = _
    rw [t3, t4, ← dig_of ⟨b / 16, q1⟩, ← dig_of ⟨b % 16, q2⟩])
  rw [HR.out]
  clear HR
  have hg : ¬ 32 ≤ (b : Int) ∨ (32 ≤ (b : Int) ∧ ¬ (b : Int) ≤ 126) := by omega
  clear h6
  generalize b / 16 = m at *
  generalize b % 16 = n at *
  rcases hg with hg | ⟨hg, hg2⟩
  all_goals
    go_enter Tryz.func66, Tryz.ntmps66
    go_wp2_with fail
    go_region
    all_goals
      go_wp2
      go_ret
      exact ⟨rfl, (below1 _ _).drew⟩

set_option maxRecDepth 100000 in
set_option maxHeartbeats 1000000 in
theorem showB_any (b : Nat) (hb : b < 256) (w : World) :
    Calls Tryz.prog 66 #[.int .u8 b] w fun e w' => e = .returned (.string (asText (shB b))) ∧ Below w.heap.size w w' := by
  unfold shB
  by_cases h1 : (b : Int) = 10
  · rw [if_pos h1]
    have e1 : ((b : Int) == 10) = true := beq_iff_eq.2 h1
    clear h1
    go_enter Tryz.func66, Tryz.ntmps66
    go_wp2
    go_ret
    exact ⟨rfl, Below.refl _ _⟩
  rw [if_neg h1]
  have e1 : ((b : Int) == 10) = false := beq_eq_false_iff_ne.2 h1
  by_cases h2 : (b : Int) = 13
  · rw [if_pos h2]
    have e2 : ((b : Int) == 13) = true := beq_iff_eq.2 h2
    clear h1 h2
    go_enter Tryz.func66, Tryz.ntmps66
    go_wp2
    go_ret
    exact ⟨rfl, Below.refl _ _⟩
  rw [if_neg h2]
  have e2 : ((b : Int) == 13) = false := beq_eq_false_iff_ne.2 h2
  by_cases h3 : (b : Int) = 9
  · rw [if_pos h3]
    have e3 : ((b : Int) == 9) = true := beq_iff_eq.2 h3
    clear h1 h2 h3
    go_enter Tryz.func66, Tryz.ntmps66
    go_wp2
    go_ret
    exact ⟨rfl, Below.refl _ _⟩
  rw [if_neg h3]
  have e3 : ((b : Int) == 9) = false := beq_eq_false_iff_ne.2 h3
  by_cases h4 : (b : Int) = 39 ∨ (b : Int) = 92
  · rw [if_pos h4]
    have hg : ((b : Int) == 39) = true ∨ (((b : Int) == 39) = false ∧ ((b : Int) == 92) = true) := by
      rcases h4 with h | h
      · exact .inl (beq_iff_eq.2 h)
      · exact .inr ⟨beq_eq_false_iff_ne.2 (by omega), beq_iff_eq.2 h⟩
    have hcv := conv2 92 (b : Int) w
    clear h1 h2 h3 h4
    rcases hg with e4 | ⟨e4, e5⟩
    all_goals
      go_enter Tryz.func66, Tryz.ntmps66
      go_wp2
      go_ret
      exact ⟨rfl, below1 _ _⟩
  rw [if_neg h4]
  have e4 : ((b : Int) == 39) = false := beq_eq_false_iff_ne.2 (by omega)
  have e5 : ((b : Int) == 92) = false := beq_eq_false_iff_ne.2 (by omega)
  by_cases h5 : 32 ≤ (b : Int) ∧ (b : Int) ≤ 126
  · rw [if_pos h5]
    obtain ⟨h6, h7⟩ := h5
    have hcv := conv1 (b : Int) w
    clear h1 h2 h3 h4
    go_enter Tryz.func66, Tryz.ntmps66
    go_wp2
    go_ret
    exact ⟨rfl, below1 _ _⟩
  rw [if_neg h5]
  exact showB_hex b hb w e1 e2 e3 e4 e5 h5
end Go.Proofs.YthffklhojdldkaaGreatDoor.Q

namespace Go.Proofs.YthffklhojdldkaaGreatDoor.Q
open Go.RowKit
theorem bld_below {w w' : World} {b : Nat} {bs : List Value} (h : Lib.IsBuilder 50 5 b b bs w) (hb : Below w.heap.size w w') : Lib.IsBuilder 50 5 b b bs w' := by
  have key : ∀ p, Lib.BuilderAt 50 5 b b p bs w → Lib.BuilderAt 50 5 b b p bs w' := fun p hp => by
    have hlt := hp.lt
    obtain ⟨hB, v, hbk, hown, hne⟩ := hp
    exact ⟨hB, v, (hb.block b hlt).trans hbk, own_below hown hb, hne⟩
  exact h.imp (key _) (key _)

theorem quV_long {s : ByteArray} (h : 65536 < s.size ∨ 65536 < (qT s).length) : quV s = .tuple #[.string ⟨#[]⟩, .int .i64 2] := by unfold quV; rw [if_pos h]
theorem quV_fits {s : ByteArray} (h : ¬ (65536 < s.size ∨ 65536 < (qT s).length)) : quV s = .tuple #[.string (asText (qT s)), .int .i64 0] := by unfold quV; rw [if_neg h]

set_option maxRecDepth 100000 in
set_option maxHeartbeats 4000000 in
theorem quote_any (s : ByteArray) (w : World) :
    Calls Tryz.prog 36 #[.string s] w fun e w' => e = .returned (quV s) ∧ Below w.heap.size w w' := by
  by_cases h : 65536 < s.size
  · have HE := (show Hid _ from quV_long (.inl h))
    have h1 : (65536 : Int) < (s.size : Int) := by omega
    go_enter Tryz.func36, Tryz.ntmps36
    go_wp2
    go_ret2
    exact ⟨by rw [HE.out]; rfl, Below.refl _ _⟩
  · have h1 : ¬ (65536 : Int) < (s.size : Int) := by omega
    have t1 : decide ((65536 : Int) < (s.size : Int)) = false := decide_eq_false (by omega)
    have HK := (show Hid _ from Lib.fresh_isBuilder 50 5 w)
    have HB := (show Hid _ from below1 w (.cells #[.pointer none, .slice none 0 0] 50))
    go_enter Tryz.func36, Tryz.ntmps36
    go_wp2_with fail
    refine (writeByte_any w.heap.size [] 39 _ HK.out (by simp)).mono ?_
    rintro e w1 ⟨rfl, hk1, hb1, _⟩
    have HK1 := (show Hid (Lib.IsBuilder 50 5 w.heap.size w.heap.size ((qTo s 0).map (Value.int .u8)) w1) from hk1)
    have HB1 := (show Hid _ from HB.out.trans (hb1.mono (Nat.le_refl _)))
    clear hk1 hb1 HK HB
    go_wp2_with fail
    go_loopw [5] (fun t wr => ∃ k : Nat, k ≤ s.size ∧ t = .int .i64 k ∧ Hid (Lib.IsBuilder 50 5 w.heap.size w.heap.size ((qTo s k).map (Value.int .u8)) wr ∧ Below w.heap.size w wr)) (fun t _ => s.size - (intOf t).toNat)
    case atStart => exact ⟨0, by omega, rfl, HK1.out, HB1.out⟩
    case round =>
      obtain ⟨k, hk, rfl, HI⟩ := hrel
      clear HK1 HB1
      have hql := qTo_len s k
      by_cases hlt : k < s.size
      · have HS := (show Hid _ from qTo_succ s k hlt)
        have hbb : s[k].toNat < 256 := s[k].toNat_lt
        have HW : Hid (∀ w, Calls Tryz.prog 66 #[.int .u8 (s[k].toNat : Int)] w fun e w' => e = .returned (.string (asText (shB (s[k].toNat : Int)))) ∧ Below w.heap.size w w') := fun w => showB_any _ hbb w
        have HT : Hid ((asText (shB (s[k].toNat : Int))).size ≤ 4) := (by show _ ≤ 4; rw [asText_size]; exact (shB_len _).2)
        have HC : Hid (Lib.strCells (asText (shB (s[k].toNat : Int))) = (shB (s[k].toNat : Int)).map (Value.int .u8)) := strCells_text (shB_by (by omega) (by omega))
        go_wp2_with fail
        refine (HW.out _).mono ?_
        rintro e w2 ⟨rfl, hb2⟩
        have HJ := (show Hid _ from (⟨bld_below HI.out.1 hb2, HI.out.2.trans (hb2.mono HI.out.2.size)⟩ : _ ∧ _))
        clear hb2 HI HW
        go_wp2_with fail
        refine (writeString_any w.heap.size _ _ _ HJ.out.1 (by have h := HT.out; rw [List.length_map]; omega)).mono ?_
        rintro e w3 ⟨rfl, hk3, hb3, _⟩
        have HI3 := (show Hid (Lib.IsBuilder 50 5 w.heap.size w.heap.size ((qTo s (k + 1)).map (Value.int .u8)) w3 ∧ Below w.heap.size w w3) from (by
          refine ⟨?_, HJ.out.2.trans (hb3.mono (Nat.le_refl _))⟩
          rw [HS.out, List.map_append, ← HC.out]
          exact hk3))
        clear hk3 hb3 HJ
        go_wp2
        go_roundw
        case rel => exact ⟨k + 1, by omega, by go_num, HI3⟩
        case measure => simp [intOf]; omega
      · have HA := (show Hid _ from qTo_all s k (by omega))
        go_wp2_with fail
        refine (writeByte_any w.heap.size _ 39 _ HI.out.1 (by rw [List.length_map]; omega)).mono ?_
        rintro e w3 ⟨rfl, hk3, hb3, _⟩
        have HI3 := (show Hid (Lib.IsBuilder 50 5 w.heap.size w.heap.size ((qT s).map (Value.int .u8)) w3 ∧ Below w.heap.size w w3) from (by
          refine ⟨?_, HI.out.2.trans (hb3.mono (Nat.le_refl _))⟩
          rw [← HA.out, List.map_append]
          exact hk3))
        clear hk3 hb3 HI HA
        go_wp2_with fail
        refine (Tryz.Builder_Len w.heap.size w.heap.size _ _ HI3.out.1).mono ?_
        rintro e w4 ⟨rfl, rfl⟩
        rw [List.length_map]
        by_cases hq : 65536 < (qT s).length
        · have HE := (show Hid _ from quV_long (.inr hq))
          have hqI : (65536 : Int) < ((qT s).length : Int) := by omega
          go_wp2
          go_ret2
          exact ⟨by rw [HE.out]; rfl, HI3.out.2⟩
        · have HE := (show Hid _ from quV_fits (s := s) (by omega))
          have hqI : ¬ (65536 : Int) < ((qT s).length : Int) := by omega
          have HX := (show Hid (Lib.IsBuilder 50 5 w.heap.size w.heap.size (Lib.byteCells ((qT s).map fun n => UInt8.ofNat n.toNat)) w4) from (by
            show Lib.IsBuilder _ _ _ _ _ _
            rw [by_cells (qT_by s)]
            exact HI3.out.1))
          clear hq
          generalize (qT s).length = L at *
          go_wp2_with fail
          refine (Tryz.Builder_String_any w.heap.size w.heap.size _ _ HX.out HI3.out.2.size).mono ?_
          rintro e w5 ⟨rfl, hb5⟩
          go_wp2
          go_ret2
          exact ⟨by rw [HE.out, asText_eq]; rfl, HI3.out.2.trans hb5⟩
end Go.Proofs.YthffklhojdldkaaGreatDoor.Q

namespace Go.Proofs.YthffklhojdldkaaGreatDoor
open Go.RowKit
theorem q_chr (s : ByteArray) (i : Nat) : Q.chr s i = chr s i := rfl
theorem q_text (l : List Int) : Q.asText l = asText l := rfl
/-- The program's reading of a literal, by what Cut answers. -/
def litP (s : ByteArray) (b : Nat) : Q.Rd (List Int × Nat) → Sum Tk (Nat × Int)
  | .inr (a, c) => if c = 21 then .inr (a.toNat, 51) else if c = 22 ∧ a < (s.size : Int) then .inr (a.toNat, 50) else .inr (b, 52)
  | .inl (l, e) => if 255 < l.length then .inr (b, 2) else .inl ⟨2, 0, b, e, asText l, 0, 0, 0, 0⟩
theorem esc_same (s : ByteArray) (i : Nat) : Q.rdEsc s i = (escT s i).map fun p => ((p.1 : Int), p.2) := by
  unfold Q.rdEsc escT Q.rdHex
  rw [show Q.chr = chr from rfl, show Q.hexV = hexV from rfl]
  have hb := chr_le s (i + 1)
  by_cases a1 : chr s (i + 1) = 110
  · rw [if_pos a1, if_pos a1]; rfl
  by_cases a2 : chr s (i + 1) = 114
  · rw [if_neg a1, if_neg a1, if_pos a2, if_pos a2]; rfl
  by_cases a3 : chr s (i + 1) = 116
  · rw [if_neg a1, if_neg a1, if_neg a2, if_neg a2, if_pos a3, if_pos a3]; rfl
  rw [if_neg a1, if_neg a1, if_neg a2, if_neg a2, if_neg a3, if_neg a3]
  by_cases a4 : chr s (i + 1) = 92 ∨ chr s (i + 1) = 39 ∨ chr s (i + 1) = 34
  · rw [if_pos a4, if_pos a4, Option.map_some, Int.toNat_of_nonneg (by omega)]
  rw [if_neg a4, if_neg a4]
  by_cases h : chr s (i + 1) = 120
  · have h1 := hexV_bd (chr s (i + 2))
    rw [if_pos h]
    by_cases q : 0 ≤ hexV (chr s (i + 2)) ∧ 0 ≤ hexV (chr s (i + 3))
    · rw [if_pos q, if_pos ⟨h, q⟩, Option.map_some, Int.toNat_of_nonneg (by omega)]
    · rw [if_neg q, if_neg (fun x => q x.2)]; rfl
  · rw [if_neg h, if_neg (fun x => h x.1)]; rfl
theorem escT_lt {s : ByteArray} {i : Nat} {c n : Nat} (h : escT s i = some (c, n)) : i < n ∧ n ≤ i + 4 := by
  unfold escT at h
  split at h
  · cases h; omega
  split at h
  · cases h; omega
  split at h
  · cases h; omega
  split at h
  · cases h; omega
  split at h
  · cases h; omega
  · cases h
theorem body_same (s : ByteArray) (q : Int) (b : Nat) (hq : q = 39 ∨ q = 34) : ∀ (f i : Nat) (l : List Int), s.size < f + i → litP s b (Q.rdBody s q f i l) = litGo s q b f l i := by
  intro f
  induction f with
  | zero =>
    intro i l hf
    rw [Q.rdBody, litGo]
    rw [litP, if_neg (by decide), if_neg (by omega)]
  | succ f ih =>
    intro i l hf
    rw [Q.rdBody, litGo, q_chr]
    by_cases h1 : i < s.size
    · have hb := chr_in h1
      have hb2 : ¬ chr s i < 0 := by rw [hb]; omega
      rw [if_neg hb2]
      by_cases h2 : chr s i = q
      · rw [if_pos h2, if_pos h2]; rfl
      rw [if_neg h2, if_neg h2, if_neg (by omega)]
      by_cases h92 : chr s i = 92
      · have e1 : ¬ (chr s i < 32 ∨ chr s i = 127) := by omega
        rw [if_neg e1, if_neg (fun x => x h92)]
        unfold Q.rdByte
        rw [q_chr, if_pos h92, esc_same]
        cases he : escT s i with
        | none =>
          show litP s b (.inr ((i : Int), 21)) = _
          rw [litP, if_pos rfl]; rfl
        | some p =>
          have h3 := escT_lt (c := p.1) (n := p.2) he
          exact ih _ _ (by omega)
      · unfold Q.rdByte
        rw [q_chr, if_neg h92]
        by_cases h32 : chr s i < 32 ∨ chr s i = 127
        · rw [if_pos h32, if_pos h32]
          rw [litP, if_neg (by decide), if_pos ⟨rfl, by omega⟩]; rfl
        · rw [if_neg h32, if_neg h32, if_pos h92]
          exact ih _ _ (by omega)
    · rw [chr_out h1, if_neg (by omega), if_pos (by omega), if_pos (by omega)]
      rw [litP, if_neg (by decide), if_neg (by omega)]
theorem rdBody_pos {s : ByteArray} {m : Int} {f i : Nat} {l : List Int} {a c : Int} (h : Q.rdBody s m f i l = .inr (a, c)) : 0 ≤ a ∧ (c = 21 ∨ c = 22) := by
  induction f generalizing i l with
  | zero => rw [Q.rdBody] at h; cases h; exact ⟨by omega, .inr rfl⟩
  | succ f ih =>
    rw [Q.rdBody] at h
    split at h
    · cases h
    split at h
    · cases h; exact ⟨by omega, .inr rfl⟩
    cases hb : Q.rdByte s i with
    | inl p => rw [hb] at h; exact ih h
    | inr q =>
      obtain ⟨a2, c2⟩ := q
      rw [hb] at h
      cases h
      unfold Q.rdByte at hb
      split at hb
      · cases he : Q.rdEsc s i with
        | none => rw [he] at hb; cases hb; exact ⟨by omega, .inl rfl⟩
        | some p => rw [he] at hb; cases hb
      · split at hb
        · cases hb; exact ⟨by omega, .inr rfl⟩
        · cases hb
theorem rdCut_pos {s : ByteArray} {b : Nat} {a c : Int} (hs : s.size ≤ 65536) (hb : b ≤ s.size) (hq : chr s b = 39 ∨ chr s b = 34) (h : Q.rdCut s b = .inr (a, c)) : 0 ≤ a ∧ (c = 21 ∨ c = 22) := by
  unfold Q.rdCut at h
  rw [if_neg (by omega), if_neg (by omega), Int.toNat_natCast, q_chr, if_pos hq] at h
  exact rdBody_pos h
theorem lit_same (s : ByteArray) (b : Nat) (hs : s.size ≤ 65536) (hb : b ≤ s.size) (hq : chr s b = 39 ∨ chr s b = 34) : litP s b (Q.rdCut s b) = litR s b := by
  unfold Q.rdCut litR
  rw [if_neg (by omega), if_neg (by omega), Int.toNat_natCast, q_chr, if_pos hq]
  exact body_same s _ b hq _ _ _ (by omega)
end Go.Proofs.YthffklhojdldkaaGreatDoor

namespace Go.Proofs.YthffklhojdldkaaGreatDoor
open Go.RowKit
def mkS (a b c d : Int) : BitVec 256 := BitVec.ofNat 256 (a.toNat + 2 ^ 64 * (b.toNat + 2 ^ 64 * (c.toNat + 2 ^ 64 * d.toNat)))
theorem mkS_wd (a b c d : Int) (ha : 0 ≤ a ∧ a < 18446744073709551616) (hb : 0 ≤ b ∧ b < 18446744073709551616) (hc : 0 ≤ c ∧ c < 18446744073709551616) (hd : 0 ≤ d ∧ d < 18446744073709551616) :
    wd (mkS a b c d) 0 = a ∧ wd (mkS a b c d) 1 = b ∧ wd (mkS a b c d) 2 = c ∧ wd (mkS a b c d) 3 = d := by
  unfold mkS
  simp only [wd, BitVec.extractLsb'_toNat, BitVec.toNat_ofNat, Nat.shiftRight_eq_div_pow]
  refine ⟨?_, ?_, ?_, ?_⟩ <;> omega
def txO (l : List UInt8) : ByteArray := ⟨l.toArray⟩
def rnT (a b : Nat) : ByteArray := ⟨#[37, 117, 123]⟩ ++ txO (dgT 16 a) ++ ⟨#[45]⟩ ++ txO (dgT 16 b) ++ ⟨#[125]⟩
def tkX (t : Tk) : ByteArray :=
  if t.kd = 1 then t.tx else if t.kd = 21 then ⟨#[123, 58]⟩ ++ gnm t.tx else if t.kd = 2 then Q.asText (Q.qT t.tx) else
  if t.kd = 3 then txO (shT (mkS t.s0 t.s1 t.s2 t.s3)) else if t.kd = 28 then ⟨#[37]⟩ ++ t.tx else if t.kd = 5 then rnT t.nn.toNat t.s0.toNat else
  if t.kd = 4 then txO (dgT 10 t.nn.toNat) else if t.kd = 13 then ⟨#[94]⟩ ++ txO (dgT 10 t.nn.toNat) else if t.kd = 14 then ⟨#[94, 43]⟩ ++ txO (dgT 10 t.nn.toNat) else
  if t.kd = 15 then ⟨#[94, 45]⟩ ++ txO (dgT 10 t.nn.toNat) else if t.kd = 29 then ⟨#[37, 101]⟩ else if t.kd = 30 then ⟨#[37, 102]⟩ else txO (sgn t.kd.toNat)
/-- What a right token holds, kind by kind. -/
theorem ri_nat {t : Tk} (h : riF t = true) : 1 ≤ t.kd ∧ t.kd ≤ 30 ∧ txF t.kd t.tx = true ∧ 0 ≤ t.nn ∧ t.nn ≤ (if t.kd = 5 then t.s0 else gtK t.kd) ∧ seF t.kd t.tx t.s0 t.s1 t.s2 t.s3 = true := by
  unfold riF nbF at h
  simp only [Bool.and_eq_true, decide_eq_true_eq] at h
  obtain ⟨⟨⟨⟨h1, h2⟩, h3⟩, h4, h5⟩, h6⟩ := h
  exact ⟨h1, h2, h3, h4, h5, h6⟩
theorem isNm_len {s : ByteArray} (h : isNm s = true) : 0 < s.size ∧ s.size ≤ 32 := by
  unfold isNm at h
  simp only [Bool.and_eq_true, decide_eq_true_eq] at h
  exact ⟨h.1.1.1, h.1.1.2⟩
theorem emp_size {s : ByteArray} (h : (s.toList == []) = true) : s.size = 0 := by
  have h := beq_iff_eq.1 h
  rw [ByteArray.toList_eq] at h
  have : s.data.toList.length = 0 := by rw [h]; rfl
  exact this
theorem txF_len {k : Int} {s : ByteArray} (h : txF k s = true) : s.size ≤ 255 := by
  unfold txF at h
  split at h
  · have := isNm_len h; omega
  split at h
  · rcases Bool.or_eq_true_iff.1 h with h | h
    · have := emp_size h; omega
    · have := isNm_len h; omega
  split at h
  · have := of_decide_eq_true h; omega
  split at h
  · have := beq_iff_eq.1 h; omega
  · have := emp_size h; omega
theorem set5_le {k s0 s1 s2 s3 : Int} {s : ByteArray} (hk : k = 5) (h : seF k s s0 s1 s2 s3 = true) : s0 ≤ 1114111 := by
  subst hk
  unfold seF at h
  rw [if_neg (by omega), if_neg (by omega), if_pos rfl] at h
  simp only [Bool.and_eq_true, decide_eq_true_eq] at h
  exact h.1
theorem txO_size (l : List UInt8) : (txO l).size = l.length := by show l.toArray.size = _; simp
theorem shT_len (x : BitVec 256) : (shT x).length ≤ 2306 := by
  unfold shT
  split
  · simp
  · have h1 := mems_len (spL (bys x))
    have h2 := spL_len256 x
    simp only [List.length_append, List.length_cons, List.length_nil]
    omega
end Go.Proofs.YthffklhojdldkaaGreatDoor

namespace Go.Proofs.YthffklhojdldkaaGreatDoor
open Go.RowKit
/-- The laid tables. -/
structure GW (W : World) : Prop where
  s : SG W
  z : TZ W
  p : Lib.TabIs Tryz.prog W "internal/strconv.uint64pow10" .u64 Lib.pow10Tab
theorem GW.later {W W' : World} (h : GW W) (hb : Below W.heap.size W W') : GW W' := ⟨h.s.later hb, h.z.later hb, Lib.tabBelow_of_tabIs h.p W' hb⟩
theorem itoa_any (a : Nat) (ha : a ≤ 999999) (w : World) (hg : GW w) : Calls Tryz.prog 35 #[.int .i64 (a : Int)] w fun e w' => e = .returned (.string (txO (dgT 10 a))) ∧ Below w.heap.size w w' := by
  refine (Tryz.strconv_Itoa (a : Int) (by omega) (by omega) w hg.p).mono ?_
  rintro e w1 ⟨rfl, k, os, rfl⟩
  refine ⟨?_, Lib.below_grow _ w (Nat.le_refl _) k os⟩
  rw [dgT_dec]
  unfold txO Lib.itoa
  rw [if_neg (by omega), Int.toNat_natCast]
theorem drew_in {wr w2 : World} (h : Below wr.drew.heap.size wr.drew w2) : Below wr.heap.size wr w2 := ((Below.refl wr.heap.size wr).drew).trans h
end Go.Proofs.YthffklhojdldkaaGreatDoor

namespace Go.Proofs.YthffklhojdldkaaGreatDoor
open Go.RowKit
def z7 : Tk := ⟨-7, 0, 0, 0, ⟨#[]⟩, 0, 0, 0, 0⟩
theorem tkc_len (L : List Tk) : (tkc L).length = L.length * 9 := by
  induction L with
  | nil => rfl
  | cons a L ih =>
    have e : tkc (a :: L) = tkV a ++ tkc L := by unfold tkc; rw [List.flatMap_cons]
    have hl : (tkV a).length = 9 := rfl
    rw [e, List.length_append, ih, hl, List.length_cons]; omega
/-- What comes in. -/
structure InT (W : World) (A : Option Addr) (c : Nat) (L : List Tk) : Prop where
  r : RdO W A L
  z : A = none → c = 0 ∧ L = []
/-- What was lent. -/
structure LentR (W : World) (B g cap : Nat) (L : List Tk) : Prop where
  o : W.ownsRow B 45 9 (.slice (some ⟨g, 0, none⟩) (L.length + 1) cap) (L.length + 1) (tkc L ++ tkV z7)
theorem LentR.below {W W' : World} {B g cap : Nat} {L : List Tk} (h : LentR W B g cap L) (hb : Below W.heap.size W W') : LentR W' B g cap L := ⟨own_below' h.o hb⟩
theorem LentR.rd {W : World} {B g cap : Nat} {L : List Tk} (h : LentR W B g cap L) : RdO W (some ⟨g, 0, none⟩) L := ⟨fun _ => ⟨g, 0, rfl, (h.o.lt g rfl).2, fun k t hk => by
  have hc := h.o.cells (g := g) rfl
  have key : ∀ j u, (tkV t)[j]? = some u → W.cell? ⟨g, 0 + k * 9 + j, none⟩ = some u := fun j u hj => by
    have h1 := tkc_get L k j t u hk hj
    have h2 := hc (k * 9 + j) u (by rw [List.getElem?_append_left (List.getElem?_eq_some_iff.1 h1).1]; exact h1)
    rw [Addr.add_lit] at h2
    rw [Nat.add_assoc]
    exact h2
  exact ⟨key 0 _ rfl, key 1 _ rfl, key 2 _ rfl, key 3 _ rfl, key 4 _ rfl, key 5 _ rfl, key 6 _ rfl, key 7 _ rfl, key 8 _ rfl⟩⟩⟩
theorem LentR.last {W : World} {B g cap : Nat} {L : List Tk} (h : LentR W B g cap L) : TR W g (L.length * 9) z7 := by
  have hc := h.o.cells (g := g) rfl
  have key : ∀ i u, (tkV z7)[i]? = some u → W.cell? ⟨g, L.length * 9 + i, none⟩ = some u := fun i u hu => by
    have := hc (L.length * 9 + i) u (by rw [List.getElem?_append_right (by rw [tkc_len]; omega), tkc_len, show L.length * 9 + i - L.length * 9 = i from by omega]; exact hu)
    rw [Addr.add_lit, Nat.zero_add] at this
    exact this
  exact ⟨key 0 _ rfl, key 1 _ rfl, key 2 _ rfl, key 3 _ rfl, key 4 _ rfl, key 5 _ rfl, key 6 _ rfl, key 7 _ rfl, key 8 _ rfl⟩
end Go.Proofs.YthffklhojdldkaaGreatDoor

namespace Go.Proofs.YthffklhojdldkaaGreatDoor
open Go.ChangeShapes Go.WideShapes Go.ChangeAt Go.RowKit
theorem Tryz.cells45 : Tryz.prog.cellsOf 45 = 9 := by kernel_rfl
theorem Tryz.cells43 : Tryz.prog.cellsOf 43 = 4 := by kernel_rfl
theorem Tryz.cells41 : Tryz.prog.cellsOf 41 = 1 := by kernel_rfl
theorem Tryz.cells9 : Tryz.prog.cellsOf 9 = 1 := by kernel_rfl
theorem Tryz.cells3 : Tryz.prog.cellsOf 3 = 1 := by kernel_rfl
theorem Tryz.bytes45 : Tryz.prog.bytesOf 45 = 80 := by kernel_rfl
theorem sized_at {H : Type} {P : Program} {ts : List TypeId} {ds : List (DataW H)} (h : (DataW.weightsEach P ts ds).all (· ≤ reachBytes) = true) {j : Nat} {t : TypeId} {d : DataW H} (ht : ts[j]? = some t) (hd : ds[j]? = some d) : ∀ n ∈ d.weights P t, n ≤ reachBytes := fun n hn => by
  have := List.all_eq_true.1 h _ (DataW.weights_mem_each ht hd n hn)
  simpa using this
theorem list9 {α : Type} {l : List α} (h : l.length = 9) : ∃ a b c d e f g i j, l = [a, b, c, d, e, f, g, i, j] := by
  match l, h with
  | [a, b, c, d, e, f, g, i, j], _ => exact ⟨a, b, c, d, e, f, g, i, j, rfl⟩
theorem trod_six {H : Type} {enc : TypeId × Value → H} {P : Program} {w : World} {base : Nat} {spare : Nat → Bool} {held : Bool} {t : TypeId} {f0 f1 f2 f3 f4 f5 : Field} {fuel : Nat} {cs : List Value} {x : DataW H × List MemPlace} (ht : P.underlying t = some (.struct #[f0, f1, f2, f3, f4, f5])) (h : DataW.trod enc P w base spare held fuel t cs = some x) :
    ∃ y0 y1 y2 y3 y4 y5 n, cs.length = P.cellsOf t ∧ DataW.trod enc P w base spare held n f0.type ((cs.drop f0.offset).take (P.cellsOf f0.type)) = some y0 ∧
      DataW.trod enc P w base spare held n f1.type ((cs.drop f1.offset).take (P.cellsOf f1.type)) = some y1 ∧ DataW.trod enc P w base spare held n f2.type ((cs.drop f2.offset).take (P.cellsOf f2.type)) = some y2 ∧
      DataW.trod enc P w base spare held n f3.type ((cs.drop f3.offset).take (P.cellsOf f3.type)) = some y3 ∧ DataW.trod enc P w base spare held n f4.type ((cs.drop f4.offset).take (P.cellsOf f4.type)) = some y4 ∧
      DataW.trod enc P w base spare held n f5.type ((cs.drop f5.offset).take (P.cellsOf f5.type)) = some y5 := by
  obtain ⟨xs, n, _, rfl, hl, hlen, hf⟩ := DataW.trod_struct ht h
  match xs, hlen with
  | [y0, y1, y2, y3, y4, y5], _ => exact ⟨y0, y1, y2, y3, y4, y5, n, hl, by simpa using hf 0 f0 rfl, by simpa using hf 1 f1 rfl, by simpa using hf 2 f2 rfl, by simpa using hf 3 f3 rfl, by simpa using hf 4 f4 rfl, by simpa using hf 5 f5 rfl⟩
theorem wf64 {n : Int} (h : (Lit.int .u64 n).wf = true) : 0 ≤ n ∧ n < 18446744073709551616 := by
  have := bounds_u64 h
  omega
set_option maxRecDepth 100000 in
theorem token_in {H : Type} {enc : TypeId × Value → H} {W : World} {held : Bool} {n : Nat} {cs : List Value} {x : DataW H × List MemPlace} (h : DataW.trod enc Tryz.prog W 0 (fun _ => true) held n 45 cs = some x) :
    ∃ t : Tk, cs = tkV t ∧ TkB t := by
  obtain ⟨y0, y1, y2, y3, y4, y5, k, hl, h0, h1, h2, h3, h4, h5⟩ := trod_six Tryz.underlying45 h
  rw [Tryz.cells45] at hl
  obtain ⟨a, b, c, d, e, f, g, i, j, rfl⟩ := list9 hl
  simp only [Tryz.cells3, Tryz.cells9, Tryz.cells43, List.drop_zero, List.take_succ_cons, List.take_zero, List.drop_succ_cons] at h0 h1 h2 h3 h4 h5
  obtain ⟨N0, e0, _, _⟩ := DataW.trod_int Tryz.underlying3 h0
  obtain ⟨N1, e1, _, b1⟩ := DataW.trod_int Tryz.underlying3 h1
  obtain ⟨N2, e2, _, _⟩ := DataW.trod_int Tryz.underlying3 h2
  obtain ⟨N3, e3, _, _⟩ := DataW.trod_int Tryz.underlying3 h3
  obtain ⟨s, e4, hs, _⟩ := DataW.trod_string Tryz.underlying9 h4
  obtain ⟨z0, z1, z2, z3, k2, _, g0, g1, g2, g3⟩ := trod_array4 Tryz.underlying43 Tryz.cells41 h5
  obtain ⟨M0, f0, _, m0⟩ := DataW.trod_int Tryz.underlying41 g0
  obtain ⟨M1, f1, _, m1⟩ := DataW.trod_int Tryz.underlying41 g1
  obtain ⟨M2, f2, _, m2⟩ := DataW.trod_int Tryz.underlying41 g2
  obtain ⟨M3, f3, _, m3⟩ := DataW.trod_int Tryz.underlying41 g3
  cases e0; cases e1; cases e2; cases e3; cases e4; cases f0; cases f1; cases f2; cases f3
  have hb := bounds_i64 b1
  exact ⟨⟨N0, N1, N2, N3, s, M0, M1, M2, M3⟩, rfl, ⟨by show N1 < _; omega, (wf64 m0).1, (wf64 m0).2, wf64 m1, wf64 m2, wf64 m3⟩⟩
/-- Tokens that come in. -/
theorem open_toks {H : Type} {enc : TypeId × Value → H} {W : World} {held : Bool} {v : Value} {d : DataW H} {p : List MemPlace} (h : DataW.Trod enc Tryz.prog W 0 (fun _ => true) held 22 v d p) (hv : ∃ a l c, v = .slice a l c) :
    ∃ A c L, v = .slice A L.length c ∧ InT W A c L ∧ (∀ t ∈ L, TkB t) ∧ ((∀ n ∈ d.weights Tryz.prog 22, n ≤ reachBytes) → L.length * 80 ≤ 140737488351232) := by
  obtain ⟨fuel, hf⟩ := h
  obtain ⟨a0, len0, cap0, rfl⟩ := hv
  have hr : reachBytes = 140737488351232 := by decide
  rcases Go.Deep.open_slice Tryz.underlying22 hf with ⟨hc, hx⟩ | ⟨a, len, cap, m, n, D, Pl, hc, _, hl, hm, hmm, hx, hall⟩
  · have hc : [Value.slice a0 len0 cap0] = [.slice none 0 0] := hc
    cases hc
    exact ⟨none, 0, [], rfl, ⟨⟨fun q => absurd rfl q⟩, fun _ => ⟨rfl, rfl⟩⟩, fun t ht => (by cases ht), fun _ => (by simp)⟩
  · have hc : [Value.slice a0 len0 cap0] = [.slice (some a) len cap] := hc
    cases hc
    simp only [if_true] at hmm
    subst hmm
    have hlm : len0 ≤ m := hl
    have each : ∀ i, i < len0 → ∃ t : Tk, (∀ j u, (tkV t)[j]? = some u → W.cell? (a.add (i * 9 + j)) = some u) ∧ TkB t := by
      intro i hi
      obtain ⟨cs', h1, h2⟩ := hall i (by omega)
      rw [Tryz.cells45] at h1
      obtain ⟨_, hlen, hcell⟩ := World.cells?_some h1
      obtain ⟨t, rfl, hw⟩ := token_in h2
      refine ⟨t, fun j u hj => ?_, hw⟩
      have hj9 : j < 9 := by
        by_cases q : j < 9
        · exact q
        · rw [List.getElem?_eq_none (by show (tkV t).length ≤ j; show 9 ≤ j; omega)] at hj; cases hj
      have e := hcell j (by rw [show (tkV t).length = 9 from rfl] at *; omega)
      rw [Go.Deep.add_add] at e
      rw [e]
      exact hj
    obtain ⟨F, hF⟩ : ∃ F : Nat → Tk, ∀ i, i < len0 → (∀ j u, (tkV (F i))[j]? = some u → W.cell? (a.add (i * 9 + j)) = some u) ∧ TkB (F i) :=
      ⟨fun i => if h : i < len0 then Classical.choose (each i h) else tk0, fun i h => by simp only [dif_pos h]; exact Classical.choose_spec (each i h)⟩
    refine ⟨some a, m, (List.range len0).map F, by simp, ⟨⟨fun hne => ?_⟩, fun q => (by cases q)⟩, fun t ht => ?_, fun hw => ?_⟩
    · have h0 : 0 < len0 := by
        by_cases q : 0 < len0
        · exact q
        · have : len0 = 0 := by omega
          subst this
          exact absurd rfl hne
      obtain ⟨g, off, spot⟩ := a
      have hspot : spot = none := by simpa [Addr.add] using World.cell?_spot ((hF 0 h0).1 0 _ rfl)
      subst hspot
      refine ⟨g, off, rfl, World.block_lt_of_cell? W _ ((hF 0 h0).1 0 _ rfl), fun j nd hj => ?_⟩
      rw [List.getElem?_map] at hj
      have hj2 : j < len0 := by
        by_cases q : j < len0
        · exact q
        · rw [List.getElem?_eq_none (by simp; omega)] at hj; cases hj
      rw [List.getElem?_range hj2] at hj
      cases hj
      have key : ∀ i u, (tkV (F j))[i]? = some u → W.cell? ⟨g, off + j * 9 + i, none⟩ = some u := fun i u hu => by
        have e := (hF j hj2).1 i u hu
        rw [Addr.add_lit, ← Nat.add_assoc] at e
        exact e
      exact ⟨key 0 _ rfl, key 1 _ rfl, key 2 _ rfl, key 3 _ rfl, key 4 _ rfl, key 5 _ rfl, key 6 _ rfl, key 7 _ rfl, key 8 _ rfl⟩
    · obtain ⟨i, hi, rfl⟩ := List.mem_map.1 ht
      exact (hF i (List.mem_range.1 hi)).2
    · have hd : d = .slice ((List.range len0).map D) ((List.range (m - len0)).map fun j => D (len0 + j)) := congrArg Prod.fst hx
      rw [hd] at hw
      simp only [DataW.weights, Tryz.underlying22] at hw
      have := hw _ (List.mem_cons_self ..)
      rw [Tryz.bytes45, hr] at this
      simp only [List.length_map, List.length_range] at this ⊢
      omega
end Go.Proofs.YthffklhojdldkaaGreatDoor

namespace Go.Proofs.YthffklhojdldkaaGreatDoor
open Go.ChangeShapes Go.WideShapes Go.ChangeAt Go.RowKit
theorem own : ownKnob Tryz.prog.godebug = none := by kernel_rfl
theorem laidOut : laidOutB Tryz.prog = true := by kernel_rfl
theorem gTab : Tryz.prog.globalNamed "harrow/token.signs" = some 0 := by kernel_rfl
theorem gTabType : (Tryz.prog.globals[0]?).map (·.type) = some 97 := by kernel_rfl
theorem gPow : Tryz.prog.globalNamed "internal/strconv.uint64pow10" = some 1 := by kernel_rfl
theorem g64 : Tryz.prog.globalNamed "math/bits.deBruijn64tab" = some 3 := by kernel_rfl
theorem Tryz.cells96 : Tryz.prog.cellsOf 96 = 2 := by kernel_rfl
theorem Tryz.cellsInt : Tryz.prog.cellsOf 3 = 1 := by kernel_rfl
theorem Tryz.cellsStr : Tryz.prog.cellsOf 9 = 1 := by kernel_rfl
set_option maxRecDepth 100000 in
theorem run_trod {H : Type} {enc : TypeId × Value → H} {W : World} {base fuel : Nat} {sp : Nat → Bool} {held : Bool} {cs : List Value} {z : DataW H × List MemPlace}
    (h : DataW.trod enc Tryz.prog W base sp held fuel 96 cs = some z) : ∃ a s, cs = [.int .i64 a, .string s] ∧ z.1 = .agg [.lit (.int .i64 a), .lit (.string s.data.toList)] := by
  obtain ⟨y0, y1, n, rfl, hl, h0, h1⟩ := trod_struct2 Tryz.underlying96 h
  rw [Tryz.cells96] at hl
  match cs, hl with
  | [c0, c1], _ =>
    dsimp only at h0 h1
    rw [Tryz.cellsInt] at h0
    rw [Tryz.cellsStr] at h1
    obtain ⟨a, e0, e0', _⟩ := DataW.trod_int Tryz.underlying3 h0
    obtain ⟨b, e1, e1', _⟩ := DataW.trod_string Tryz.underlying9 h1
    have e0 : [c0] = [Value.int .i64 a] := e0
    have e1 : [c1] = [Value.string b] := e1
    cases e0
    cases e1
    exact ⟨a, b, rfl, by rw [e0', e1']⟩
theorem tab_laid {H : Type} : (Rows.laid_harrow_token_signs : DataW H) = .agg (sgTab.map fun p => .agg [.lit (.int .i64 p.1), .lit (.string p.2)]) := rfl
theorem tab_get : ∀ (i : Nat) v, tabL[i]? = some v → ∃ j p, sgTab[j]? = some p ∧ ((i = 2 * j ∧ v = .int .i64 p.1) ∨ (i = 2 * j + 1 ∧ v = .string ⟨p.2.toArray⟩)) := by
  have key : ∀ (l : List (Int × List UInt8)) (i : Nat) (v : Value), (l.flatMap fun p => [Value.int .i64 p.1, .string ⟨p.2.toArray⟩])[i]? = some v → ∃ j p, l[j]? = some p ∧ ((i = 2 * j ∧ v = .int .i64 p.1) ∨ (i = 2 * j + 1 ∧ v = .string ⟨p.2.toArray⟩)) := by
    intro l
    induction l with
    | nil => intro i v h; simp at h
    | cons p l ih =>
      intro i v h
      rw [List.flatMap_cons] at h
      match i, h with
      | 0, h => exact ⟨0, p, rfl, .inl ⟨rfl, by simpa using h.symm⟩⟩
      | 1, h => exact ⟨0, p, rfl, .inr ⟨rfl, by simpa using h.symm⟩⟩
      | i + 2, h =>
        obtain ⟨j, q, h1, h2⟩ := ih i v (by simpa using h)
        exact ⟨j + 1, q, by simpa using h1, by
          rcases h2 with ⟨x, y⟩ | ⟨x, y⟩
          · exact .inl ⟨by omega, y⟩
          · exact .inr ⟨by omega, y⟩⟩
  exact key sgTab
theorem sg_of_vars {W : World} {ps : List MemPlace} (h : DataW.LaidVars Tryz.prog W [("harrow/token.signs", Rows.laid_harrow_token_signs)] ps) : SG W := by
  obtain ⟨g', t', cs, fuel, p, q, hg', ht', hvar, hd, _, _⟩ := h
  obtain rfl := Option.some.inj (gTab.symm.trans hg')
  obtain rfl := Option.some.inj (gTabType.symm.trans ht')
  obtain ⟨xs, m, rfl, hx, hl, hn, hel⟩ := DataW.trod_array Tryz.underlying97 hd
  have hx1 := congrArg Prod.fst hx
  dsimp only at hx1
  rw [tab_laid] at hx1
  injection hx1 with hx1
  rw [Tryz.cells96] at hel
  have hcell := World.var?_cell gTab hvar
  have key : ∀ j p, sgTab[j]? = some p → W.cell? ⟨0, 2 * j, none⟩ = some (.int .i64 p.1) ∧ W.cell? ⟨0, 2 * j + 1, none⟩ = some (.string ⟨p.2.toArray⟩) := fun j p hp => by
    have hj : j < 24 := (List.getElem?_eq_some_iff.1 hp).1
    have k0 := hel j hj
    obtain ⟨x, hxj⟩ : ∃ x, xs[j]? = some x := ⟨_, List.getElem?_eq_getElem (by omega)⟩
    rw [hxj] at k0
    obtain ⟨a, s, e1, e2⟩ := run_trod k0
    have h3 : (xs.map (·.1))[j]? = some x.1 := by rw [List.getElem?_map, hxj]; rfl
    rw [← hx1, List.getElem?_map, hp] at h3
    have h3 : DataW.agg [.lit (.int .i64 p.1), .lit (.string p.2)] = x.1 := Option.some.inj h3
    rw [e2] at h3
    injection h3 with h3
    injection h3 with h4 h5
    injection h5 with h5 _
    injection h4 with h4
    injection h4 with h4 h4
    injection h5 with h5
    injection h5 with h5
    have hs : s = ⟨p.2.toArray⟩ := by rw [h5]
    have c0 : cs.toList[2 * j]? = some (.int .i64 p.1) := by
      have := congrArg (fun l => l[0]?) e1
      simp only [List.getElem?_take, List.getElem?_drop, List.getElem?_cons_zero] at this
      rw [if_pos (by omega), show j * 2 + 0 = 2 * j from by omega, ← h4] at this
      exact this
    have c1 : cs.toList[2 * j + 1]? = some (.string ⟨p.2.toArray⟩) := by
      have := congrArg (fun l => l[1]?) e1
      simp only [List.getElem?_take, List.getElem?_drop, List.getElem?_cons_succ, List.getElem?_cons_zero] at this
      rw [if_pos (by omega), show j * 2 + 1 = 2 * j + 1 from by omega, hs] at this
      exact this
    exact ⟨(hcell (2 * j)).trans (by simpa using c0), (hcell (2 * j + 1)).trans (by simpa using c1)⟩
  refine ⟨World.block_lt_of_cell? W _ (key 0 _ rfl).1, fun i v hv => ?_⟩
  obtain ⟨j, p, hp, hor⟩ := tab_get i v hv
  obtain ⟨h1, h2⟩ := key j p hp
  rw [Nat.zero_add]
  rcases hor with ⟨rfl, rfl⟩ | ⟨rfl, rfl⟩
  · exact h1
  · exact h2
theorem tab_of_vars {P : Program} {W : World} {name : String} {k : IntKind} {zs : List Int} {rest : List (String × DataW Unit)} {ps : List MemPlace} {g : Nat} {t e : TypeId} {n : Nat}
    (hg : P.globalNamed name = some g) (hty : (P.globals[g]?).map (·.type) = some t) (ht : P.underlying t = some (.array n e)) (he : P.underlying e = some (.int k)) (hce : P.cellsOf e = 1) (hct : P.cellsOf t = n)
    (h : DataW.LaidVars P W ((name, Lib.tabData k zs) :: rest) ps) : Lib.TabIs P W name k zs := by
  obtain ⟨g', t', cs, fuel, p, q, hg', ht', hvar, hd, _, _⟩ := h
  obtain rfl := Option.some.inj (hg.symm.trans hg')
  obtain rfl := Option.some.inj (hty.symm.trans ht')
  unfold Lib.TabIs
  rw [hvar, ← Lib.cells_of_tab ht he hce hct hd]
theorem vars_tail {P : Program} {W : World} {x : String × DataW Unit} {r : List (String × DataW Unit)} {ps : List MemPlace} (h : DataW.LaidVars P W (x :: r) ps) : ∃ q, DataW.LaidVars P W r q := by
  obtain ⟨_, _, _, _, _, q, _, _, _, _, hq, _⟩ := h
  exact ⟨q, hq⟩
def d64L : List Int := [0, 1, 56, 2, 57, 49, 28, 3, 61, 58, 42, 50, 38, 29, 17, 4, 62, 47, 59, 36, 45, 43, 51, 22, 53, 39, 33, 30, 24, 18, 12, 5, 63, 55, 48, 27, 60, 41, 37, 16, 46, 35, 44, 21, 52, 32, 23, 11, 54, 26, 40, 15, 34, 20, 31, 10, 25, 14, 19, 9, 13, 8, 7, 6]
abbrev laidL : List (String × DataW Unit) := [("math/bits.deBruijn32tab", Rows.laid_math_bits_deBruijn32tab), ("math/bits.deBruijn64tab", Rows.laid_math_bits_deBruijn64tab), ("internal/strconv.uint64pow10", Rows.laid_internal_strconv_uint64pow10), ("harrow/token.signs", Rows.laid_harrow_token_signs)]
theorem l64_eq {H : Type} : (Rows.laid_math_bits_deBruijn64tab : DataW H) = Lib.tabData .u8 d64L := rfl
theorem lPow_eq {H : Type} : (Rows.laid_internal_strconv_uint64pow10 : DataW H) = Lib.tabData .u64 Lib.pow10Tab := rfl
theorem gw_of_laid {W : World} (h : laidMetH Tryz.prog laidL W) : GW W := by
  have h : laidMet Tryz.prog laidL W := h
  obtain ⟨ps, h1, _⟩ := h
  obtain ⟨q2, h2⟩ := vars_tail h1
  obtain ⟨q3, h3⟩ := vars_tail h2
  obtain ⟨q4, h4⟩ := vars_tail h3
  rw [l64_eq] at h2
  rw [lPow_eq] at h3
  have t2 := tab_of_vars g64 (by kernel_rfl) Tryz.underlying136 Tryz.underlying5 (by kernel_rfl) (by kernel_rfl) h2
  have t3 := tab_of_vars gPow (by kernel_rfl) Tryz.underlying126 Tryz.underlying41 (by kernel_rfl) (by kernel_rfl) h3
  have c := t2.cell g64 15 (by decide)
  exact ⟨sg_of_vars h4, ⟨World.block_lt_of_cell? W _ c, c⟩, t3⟩
/-- A world with the tables laid. -/
def layAt (k : Nat) (cs : Array Value) (w : World) : World := { w with heap := w.heap.modify k fun
      | .cells _ t frozen => .cells cs t frozen
      | o => o }
def layTab (w : World) : World := layAt 3 #[.int .u8 0, .int .u8 1, .int .u8 56, .int .u8 2, .int .u8 57, .int .u8 49, .int .u8 28, .int .u8 3, .int .u8 61, .int .u8 58, .int .u8 42, .int .u8 50, .int .u8 38, .int .u8 29, .int .u8 17, .int .u8 4, .int .u8 62, .int .u8 47, .int .u8 59, .int .u8 36, .int .u8 45, .int .u8 43, .int .u8 51, .int .u8 22, .int .u8 53, .int .u8 39, .int .u8 33, .int .u8 30, .int .u8 24, .int .u8 18, .int .u8 12, .int .u8 5, .int .u8 63, .int .u8 55, .int .u8 48, .int .u8 27, .int .u8 60, .int .u8 41, .int .u8 37, .int .u8 16, .int .u8 46, .int .u8 35, .int .u8 44, .int .u8 21, .int .u8 52, .int .u8 32, .int .u8 23, .int .u8 11, .int .u8 54, .int .u8 26, .int .u8 40, .int .u8 15, .int .u8 34, .int .u8 20, .int .u8 31, .int .u8 10, .int .u8 25, .int .u8 14, .int .u8 19, .int .u8 9, .int .u8 13, .int .u8 8, .int .u8 7, .int .u8 6] (layAt 2 #[.int .u8 0, .int .u8 1, .int .u8 28, .int .u8 2, .int .u8 29, .int .u8 14, .int .u8 24, .int .u8 3, .int .u8 30, .int .u8 22, .int .u8 20, .int .u8 15, .int .u8 25, .int .u8 17, .int .u8 4, .int .u8 8, .int .u8 31, .int .u8 27, .int .u8 13, .int .u8 23, .int .u8 21, .int .u8 19, .int .u8 16, .int .u8 7, .int .u8 26, .int .u8 12, .int .u8 18, .int .u8 6, .int .u8 11, .int .u8 5, .int .u8 10, .int .u8 9] (layAt 1 #[.int .u64 1, .int .u64 10, .int .u64 100, .int .u64 1000, .int .u64 10000, .int .u64 100000, .int .u64 1000000, .int .u64 10000000, .int .u64 100000000, .int .u64 1000000000, .int .u64 10000000000, .int .u64 100000000000, .int .u64 1000000000000, .int .u64 10000000000000, .int .u64 100000000000000, .int .u64 1000000000000000, .int .u64 10000000000000000, .int .u64 100000000000000000, .int .u64 1000000000000000000, .int .u64 10000000000000000000] (layAt 0 #[.int .i64 29, .string ⟨#[37, 101]⟩, .int .i64 30, .string ⟨#[37, 102]⟩, .int .i64 14, .string ⟨#[94, 43]⟩, .int .i64 15, .string ⟨#[94, 45]⟩, .int .i64 13, .string ⟨#[94]⟩, .int .i64 6, .string ⟨#[60, 45]⟩, .int .i64 27, .string ⟨#[45, 62]⟩, .int .i64 7, .string ⟨#[47]⟩, .int .i64 8, .string ⟨#[38]⟩, .int .i64 9, .string ⟨#[33]⟩, .int .i64 10, .string ⟨#[63]⟩, .int .i64 11, .string ⟨#[42]⟩, .int .i64 12, .string ⟨#[43]⟩, .int .i64 16, .string ⟨#[40]⟩, .int .i64 17, .string ⟨#[41]⟩, .int .i64 18, .string ⟨#[46]⟩, .int .i64 21, .string ⟨#[123, 58]⟩, .int .i64 22, .string ⟨#[58, 125]⟩, .int .i64 23, .string ⟨#[123, 124]⟩, .int .i64 24, .string ⟨#[124, 125]⟩, .int .i64 25, .string ⟨#[123, 126]⟩, .int .i64 26, .string ⟨#[126, 125]⟩, .int .i64 19, .string ⟨#[123]⟩, .int .i64 20, .string ⟨#[125]⟩] w)))
end Go.Proofs.YthffklhojdldkaaGreatDoor
