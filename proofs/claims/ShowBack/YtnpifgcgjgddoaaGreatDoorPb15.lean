/- DERIVED. Plain mathematics and walks, laid together (15). -/
import Derived.Test.YtnpifgcgjgddoaaGreatDoorCards
import Derived.Test.YtnpifgcgjgddoaaGreatDoorTie
import Derived.WalkKit
import Derived.ProofKit
import Derived.OpenShut
import Derived.ShutString
import Derived.ChangeOld
import Derived.ChangeSame
import Derived.SizedLaws
import Derived.FnData
import Derived.Deep.DeepHandedRow
import Derived.Lib.LaidTab
import Derived.Deep.SlicePairs
import Derived.Lib.SmallJoins
import Derived.Laws.IdiomArrays
import Derived.Lib.Builder
import Derived.Test.YtnpifgcgjgddoaaGreatDoorPb14
set_option maxRecDepth 100000
set_option maxHeartbeats 8000000
namespace Go.Proofs.YtnpifgcgjgddoaaGreatDoor
open Go.ChangeShapes Go.WideShapes Go.ChangeAt Go.RowKit
theorem own : ownKnob Tryz.prog.godebug = none := by kernel_rfl
theorem zll : laidOutB Tryz.prog = true := by kernel_rfl
theorem gTab : Tryz.prog.globalNamed "harrow/token.signs" = some 1 := by kernel_rfl
theorem gTabType : (Tryz.prog.globals[1]?).map (·.type) = some 185 := by kernel_rfl
theorem gBlk : Tryz.prog.globalNamed "harrow/runes.blocks" = some 6 := by kernel_rfl
theorem gBlkType : (Tryz.prog.globals[6]?).map (·.type) = some 219 := by kernel_rfl
theorem Tryz.cells169 : Tryz.prog.cellsOf 169 = 2 := by kernel_rfl
theorem Tryz.cellsInt : Tryz.prog.cellsOf 3 = 1 := by kernel_rfl
theorem Tryz.cellsStr : Tryz.prog.cellsOf 9 = 1 := by kernel_rfl
theorem Tryz.cells219 : Tryz.prog.cellsOf 219 = 10 := by kernel_rfl
theorem Tryz.cells218 : Tryz.prog.cellsOf 218 = 2 := by kernel_rfl
theorem Tryz.cells21 : Tryz.prog.cellsOf 21 = 1 := by kernel_rfl
theorem znx {H : Type} {enc : TypeId × Value -> H} {W : World} {base fuel : Nat} {sp : Nat -> Bool} {held : Bool} {cs : List Value} {z : DataW H × List MemPlace}
  (h : DataW.trod enc Tryz.prog W base sp held fuel 169 cs = some z) : ∃ a s, cs = [.int .i64 a, .string s] /\ z.1 = .agg [.lit (.int .i64 a), .lit (.string s.data.toList)] := by
 obtain ⟨y0, y1, n, rfl, hl, h0, h1⟩ := trod_struct2 Tryz.underlying169 h
 rw [Tryz.cells169] at hl
 match cs, hl with
 | [c0, c1], _ =>
  dsimp only at h0 h1
  rw [Tryz.cellsInt] at h0
  rw [Tryz.cellsStr] at h1
  obtain ⟨a, e0, e0', _⟩ := DataW.trod_int Tryz.underlying3 h0
  obtain ⟨b, e1, e1', _⟩ := DataW.trod_string Tryz.underlying9 h1
  have e0 : [c0] = [Value.int .i64 a] := e0
  have e1 : [c1] = [Value.string b] := e1
  cases e0
  cases e1
  exact ⟨a, b, rfl, by rw [e0', e1']⟩
theorem zny {H : Type} : (Rows.laid_harrow_token_signs : DataW H) = .agg (sgTab.map fun p => .agg [.lit (.int .i64 p.1), .lit (.string p.2)]) := rfl
theorem zqo : ∀ (i : Nat) v, tabL[i]? = some v -> ∃ j p, sgTab[j]? = some p /\ ((i = 2 * j /\ v = .int .i64 p.1) ∨ (i = 2 * j + 1 /\ v = .string ⟨p.2.toArray⟩)) := by
 have key : ∀ (l : List (Int × List UInt8)) (i : Nat) (v : Value), (l.flatMap fun p => [Value.int .i64 p.1, .string ⟨p.2.toArray⟩])[i]? = some v -> ∃ j p, l[j]? = some p /\ ((i = 2 * j /\ v = .int .i64 p.1) ∨ (i = 2 * j + 1 /\ v = .string ⟨p.2.toArray⟩)) := by
  intro l
  induction l with
  | nil => intro i v h; simp at h
  | cons p l ih =>
   intro i v h
   rw [List.flatMap_cons] at h
   match i, h with
   | 0, h => exact ⟨0, p, rfl, .inl ⟨rfl, by simpa using h.symm⟩⟩
   | 1, h => exact ⟨0, p, rfl, .inr ⟨rfl, by simpa using h.symm⟩⟩
   | i + 2, h =>
    obtain ⟨j, q, h1, h2⟩ := ih i v (by simpa using h)
    exact ⟨j + 1, q, by simpa using h1, by
     rcases h2 with ⟨x, y⟩ | ⟨x, y⟩
     ·exact .inl ⟨by omega, y⟩
     ·exact .inr ⟨by omega, y⟩⟩
 exact key sgTab
theorem zjn {W : World} {ps : List MemPlace} (h : DataW.LaidVars Tryz.prog W [("harrow/token.signs", Rows.laid_harrow_token_signs)] ps) : SG W := by
 obtain ⟨g', t', cs, fuel, p, q, hg', ht', hvar, hd, _, _⟩ := h
 obtain rfl := Option.some.inj (gTab.symm.trans hg')
 obtain rfl := Option.some.inj (gTabType.symm.trans ht')
 obtain ⟨xs, m, rfl, hx, hl, hn, hel⟩ := DataW.trod_array Tryz.underlying185 hd
 have hx1 := congrArg Prod.fst hx
 dsimp only at hx1
 rw [zny] at hx1
 injection hx1 with hx1
 rw [Tryz.cells169] at hel
 have hcell := World.var?_cell gTab hvar
 have key : ∀ j p, sgTab[j]? = some p -> W.cell? ⟨1, 2 * j, none⟩ = some (.int .i64 p.1) /\ W.cell? ⟨1, 2 * j + 1, none⟩ = some (.string ⟨p.2.toArray⟩) := fun j p hp => by
  have hj : j < 24 := (List.getElem?_eq_some_iff.1 hp).1
  have k0 := hel j hj
  obtain ⟨x, hxj⟩ : ∃ x, xs[j]? = some x := ⟨_, List.getElem?_eq_getElem (by omega)⟩
  rw [hxj] at k0
  obtain ⟨a, s, e1, e2⟩ := znx k0
  have h3 : (xs.map (·.1))[j]? = some x.1 := by rw [List.getElem?_map, hxj]; rfl
  rw [<- hx1, List.getElem?_map, hp] at h3
  have h3 : DataW.agg [.lit (.int .i64 p.1), .lit (.string p.2)] = x.1 := Option.some.inj h3
  rw [e2] at h3
  injection h3 with h3
  injection h3 with h4 h5
  injection h5 with h5 _
  injection h4 with h4
  injection h4 with h4 h4
  injection h5 with h5
  injection h5 with h5
  have hs : s = ⟨p.2.toArray⟩ := by rw [h5]
  have c0 : cs.toList[2 * j]? = some (.int .i64 p.1) := by
   have := congrArg (fun l => l[0]?) e1
   simp only [List.getElem?_take, List.getElem?_drop, List.getElem?_cons_zero] at this
   rw [if_pos (by omega), show j * 2 + 0 = 2 * j from by omega, <- h4] at this
   exact this
  have c1 : cs.toList[2 * j + 1]? = some (.string ⟨p.2.toArray⟩) := by
   have := congrArg (fun l => l[1]?) e1
   simp only [List.getElem?_take, List.getElem?_drop, List.getElem?_cons_succ, List.getElem?_cons_zero] at this
   rw [if_pos (by omega), show j * 2 + 1 = 2 * j + 1 from by omega, hs] at this
   exact this
  exact ⟨(hcell (2 * j)).trans (by simpa using c0), (hcell (2 * j + 1)).trans (by simpa using c1)⟩
 refine ⟨World.block_lt_of_cell? W _ (key 0 _ rfl).1, fun i v hv => ?_⟩
 obtain ⟨j, p, hp, hor⟩ := zqo i v hv
 obtain ⟨h1, h2⟩ := key j p hp
 rw [Nat.zero_add]
 rcases hor with ⟨rfl, rfl⟩ | ⟨rfl, rfl⟩
 ·exact h1
 ·exact h2
theorem zdx {P : Program} {W : World} {x : String × DataW Unit} {r : List (String × DataW Unit)} {ps : List MemPlace} (h : DataW.LaidVars P W (x :: r) ps) : ∃ q, DataW.LaidVars P W r q := by
 obtain ⟨_, _, _, _, _, q, _, _, _, _, hq, _⟩ := h
 exact ⟨q, hq⟩
theorem zcL {H : Type} {enc : TypeId × Value -> H} {W : World} {base fuel : Nat} {sp : Nat -> Bool} {held : Bool} {c0 c1 : Value} {z : DataW H × List MemPlace}
  (h : DataW.trod enc Tryz.prog W base sp held fuel 218 [c0, c1] = some z) : ∃ a b, c0 = .int .i32 a /\ c1 = .int .i32 b /\ z.1 = .agg [.lit (.int .i32 a), .lit (.int .i32 b)] := by
 obtain ⟨y0, y1, n, rfl, _, h0, h1⟩ := trod_struct2 Tryz.underlying218 h
 dsimp only at h0 h1
 rw [Tryz.cells21] at h0 h1
 obtain ⟨a, e0, e0', _⟩ := DataW.trod_int Tryz.underlying21 h0
 obtain ⟨b, e1, e1', _⟩ := DataW.trod_int Tryz.underlying21 h1
 have e0 : [c0] = [Value.int .i32 a] := e0
 have e1 : [c1] = [Value.int .i32 b] := e1
 cases e0
 cases e1
 exact ⟨a, b, rfl, rfl, by rw [e0', e1']⟩
theorem zjo {W : World} {rest : List (String × DataW Unit)} {ps : List MemPlace} (h : DataW.LaidVars Tryz.prog W (("harrow/runes.blocks", Rows.laid_harrow_runes_blocks) :: rest) ps) : R.VB W := by
 obtain ⟨g', t', cs, fuel, p, q, hg', ht', hvar, hd, _, _⟩ := h
 obtain rfl := Option.some.inj (gBlk.symm.trans hg')
 obtain rfl := Option.some.inj (gBlkType.symm.trans ht')
 obtain ⟨xs, m, rfl, hx, hl, hn, hel⟩ := DataW.trod_array Tryz.underlying219 hd
 have hx1 := congrArg Prod.fst hx
 dsimp only at hx1
 rw [Tryz.cells219] at hl
 have hcell := World.var?_cell gBlk hvar
 obtain ⟨l⟩ := cs
 match l, hl with
 | [a0, a1, a2, a3, a4, a5, a6, a7, a8, a9], _ =>
  match xs, hn with
  | [x0, x1, x2, x3, x4], _ =>
   have k0 := hel 0 (by omega)
   have k1 := hel 1 (by omega)
   have k2 := hel 2 (by omega)
   have k3 := hel 3 (by omega)
   have k4 := hel 4 (by omega)
   rw [Tryz.cells218] at k0 k1 k2 k3 k4
   obtain ⟨p0, q0, rfl, rfl, r0⟩ := zcL (show DataW.trod _ Tryz.prog _ _ _ _ m 218 [a0, a1] = some x0 from k0)
   obtain ⟨p1, q1, rfl, rfl, r1⟩ := zcL (show DataW.trod _ Tryz.prog _ _ _ _ m 218 [a2, a3] = some x1 from k1)
   obtain ⟨p2, q2, rfl, rfl, r2⟩ := zcL (show DataW.trod _ Tryz.prog _ _ _ _ m 218 [a4, a5] = some x2 from k2)
   obtain ⟨p3, q3, rfl, rfl, r3⟩ := zcL (show DataW.trod _ Tryz.prog _ _ _ _ m 218 [a6, a7] = some x3 from k3)
   obtain ⟨p4, q4, rfl, rfl, r4⟩ := zcL (show DataW.trod _ Tryz.prog _ _ _ _ m 218 [a8, a9] = some x4 from k4)
   simp only [Rows.laid_harrow_runes_blocks, List.map_cons, List.map_nil, r0, r1, r2, r3, r4, DataW.agg.injEq, List.cons.injEq, DataW.lit.injEq, Lit.int.injEq, and_true, true_and] at hx1
   obtain ⟨⟨e0, e1⟩, ⟨e2, e3⟩, ⟨e4, e5⟩, ⟨e6, e7⟩, e8, e9⟩ := hx1
   subst e0 e1 e2 e3 e4 e5 e6 e7 e8 e9
   have c0 := hcell 0
   exact ⟨World.block_lt_of_cell? W _ c0, c0, hcell 1, hcell 2, hcell 3, hcell 4, hcell 5, hcell 6, hcell 7, hcell 8, hcell 9⟩
abbrev laidL : List (String × DataW Unit) := [("math/bits.deBruijn32tab", Rows.laid_math_bits_deBruijn32tab), ("math/bits.deBruijn64tab", Rows.laid_math_bits_deBruijn64tab), ("internal/strconv.uint64pow10", Rows.laid_internal_strconv_uint64pow10), ("harrow/runes.blocks", Rows.laid_harrow_runes_blocks), ("harrow/token.signs", Rows.laid_harrow_token_signs)]
theorem zjp {W : World} (h : laidMetH Tryz.prog laidL W) : N.GW W := by
 have h : laidMet Tryz.prog laidL W := h
 obtain ⟨ps, h1, _⟩ := h
 obtain ⟨q2, h2⟩ := zdx h1
 obtain ⟨q3, h3⟩ := zdx h2
 obtain ⟨q4, h4⟩ := zdx h3
 obtain ⟨q5, h5⟩ := zdx h4
 exact ⟨zjn h5, zjo h4⟩
def zjq (k : Nat) (cs : Array Value) (w : World) : World := { w with heap := w.heap.modify k fun
   | .cells _ t frozen => .cells cs t frozen
   | o => o }
def zlm (w : World) : World := zjq 6 #[.int .i32 0, .int .i32 127, .int .i32 128, .int .i32 2047, .int .i32 2048, .int .i32 55295, .int .i32 57344, .int .i32 65535, .int .i32 65536, .int .i32 1114111] (zjq 5 #[.int .u8 0, .int .u8 1, .int .u8 56, .int .u8 2, .int .u8 57, .int .u8 49, .int .u8 28, .int .u8 3, .int .u8 61, .int .u8 58, .int .u8 42, .int .u8 50, .int .u8 38, .int .u8 29, .int .u8 17, .int .u8 4, .int .u8 62, .int .u8 47, .int .u8 59, .int .u8 36, .int .u8 45, .int .u8 43, .int .u8 51, .int .u8 22, .int .u8 53, .int .u8 39, .int .u8 33, .int .u8 30, .int .u8 24, .int .u8 18, .int .u8 12, .int .u8 5, .int .u8 63, .int .u8 55, .int .u8 48, .int .u8 27, .int .u8 60, .int .u8 41, .int .u8 37, .int .u8 16, .int .u8 46, .int .u8 35, .int .u8 44, .int .u8 21, .int .u8 52, .int .u8 32, .int .u8 23, .int .u8 11, .int .u8 54, .int .u8 26, .int .u8 40, .int .u8 15, .int .u8 34, .int .u8 20, .int .u8 31, .int .u8 10, .int .u8 25, .int .u8 14, .int .u8 19, .int .u8 9, .int .u8 13, .int .u8 8, .int .u8 7, .int .u8 6] (zjq 4 #[.int .u8 0, .int .u8 1, .int .u8 28, .int .u8 2, .int .u8 29, .int .u8 14, .int .u8 24, .int .u8 3, .int .u8 30, .int .u8 22, .int .u8 20, .int .u8 15, .int .u8 25, .int .u8 17, .int .u8 4, .int .u8 8, .int .u8 31, .int .u8 27, .int .u8 13, .int .u8 23, .int .u8 21, .int .u8 19, .int .u8 16, .int .u8 7, .int .u8 26, .int .u8 12, .int .u8 18, .int .u8 6, .int .u8 11, .int .u8 5, .int .u8 10, .int .u8 9] (zjq 2 #[.int .u64 1, .int .u64 10, .int .u64 100, .int .u64 1000, .int .u64 10000, .int .u64 100000, .int .u64 1000000, .int .u64 10000000, .int .u64 100000000, .int .u64 1000000000, .int .u64 10000000000, .int .u64 100000000000, .int .u64 1000000000000, .int .u64 10000000000000, .int .u64 100000000000000, .int .u64 1000000000000000, .int .u64 10000000000000000, .int .u64 100000000000000000, .int .u64 1000000000000000000, .int .u64 10000000000000000000] (zjq 1 #[.int .i64 29, .string ⟨#[37, 101]⟩, .int .i64 30, .string ⟨#[37, 102]⟩, .int .i64 14, .string ⟨#[94, 43]⟩, .int .i64 15, .string ⟨#[94, 45]⟩, .int .i64 13, .string ⟨#[94]⟩, .int .i64 6, .string ⟨#[60, 45]⟩, .int .i64 27, .string ⟨#[45, 62]⟩, .int .i64 7, .string ⟨#[47]⟩, .int .i64 8, .string ⟨#[38]⟩, .int .i64 9, .string ⟨#[33]⟩, .int .i64 10, .string ⟨#[63]⟩, .int .i64 11, .string ⟨#[42]⟩, .int .i64 12, .string ⟨#[43]⟩, .int .i64 16, .string ⟨#[40]⟩, .int .i64 17, .string ⟨#[41]⟩, .int .i64 18, .string ⟨#[46]⟩, .int .i64 21, .string ⟨#[123, 58]⟩, .int .i64 22, .string ⟨#[58, 125]⟩, .int .i64 23, .string ⟨#[123, 124]⟩, .int .i64 24, .string ⟨#[124, 125]⟩, .int .i64 25, .string ⟨#[123, 126]⟩, .int .i64 26, .string ⟨#[126, 125]⟩, .int .i64 19, .string ⟨#[123]⟩, .int .i64 20, .string ⟨#[125]⟩] (zjq 0 #[.string ⟨#[]⟩, .string ⟨#[101, 109, 112, 116, 121]⟩, .string ⟨#[102, 97, 105, 108]⟩, .string ⟨#[97, 110, 121]⟩, .string ⟨#[116, 101, 120, 116]⟩, .string ⟨#[115, 101, 116]⟩, .string ⟨#[99, 97, 108, 108]⟩, .string ⟨#[115, 101, 113]⟩, .string ⟨#[99, 104, 111, 105, 99, 101]⟩, .string ⟨#[115, 116, 97, 114]⟩, .string ⟨#[112, 108, 117, 115]⟩, .string ⟨#[111, 112, 116]⟩, .string ⟨#[97, 110, 100]⟩, .string ⟨#[110, 111, 116]⟩, .string ⟨#[116, 105, 109, 101, 115]⟩, .string ⟨#[108, 101, 97, 115, 116]⟩, .string ⟨#[109, 111, 115, 116]⟩, .string ⟨#[112, 108, 97, 99, 101]⟩, .string ⟨#[115, 117, 98]⟩, .string ⟨#[103, 114, 111, 117, 112]⟩, .string ⟨#[108, 105, 115, 116]⟩, .string ⟨#[115, 117, 98, 115, 116]⟩, .string ⟨#[115, 116, 114, 105, 110, 103]⟩, .string ⟨#[112, 105, 99, 107]⟩] (w))))))
end Go.Proofs.YtnpifgcgjgddoaaGreatDoor
namespace Go.Proofs.YtnpifgcgjgddoaaGreatDoor.T
open Go.ChangeShapes Go.WideShapes Go.ChangeAt Go.RowKit
theorem Tryz.cells51 : Tryz.prog.cellsOf 51 = 7 := by kernel_rfl
theorem Tryz.cells49 : Tryz.prog.cellsOf 49 = 4 := by kernel_rfl
theorem Tryz.cells47 : Tryz.prog.cellsOf 47 = 1 := by kernel_rfl
theorem Tryz.cells9 : Tryz.prog.cellsOf 9 = 1 := by kernel_rfl
theorem Tryz.cells3 : Tryz.prog.cellsOf 3 = 1 := by kernel_rfl
theorem Tryz.bytes51 : Tryz.prog.bytesOf 51 = 64 := by kernel_rfl
theorem ziz {H : Type} {P : Program} {ts : List TypeId} {ds : List (DataW H)} (h : (DataW.weightsEach P ts ds).all (· <= reachBytes) = true) {j : Nat} {t : TypeId} {d : DataW H} (ht : ts[j]? = some t) (hd : ds[j]? = some d) : ∀ n ∈ d.weights P t, n <= reachBytes := fun n hn => by
 have := List.all_eq_true.1 h _ (DataW.weights_mem_each ht hd n hn)
 simpa using this
theorem zdc {H : Type} (P : Program) (e : TypeId) : ∀ (l : List (DataW H)) (d : DataW H), d ∈ l -> ∀ n ∈ d.weights P e, n ∈ DataW.weightsAll P e l
 | [], _, h, _, _ => by cases h
 | a :: l, d, h, n, hn => by
  simp only [DataW.weightsAll, List.mem_append]
  rcases List.mem_cons.1 h with rfl | h
  ·exact .inl hn
  ·exact .inr (zdc P e l d h n hn)
theorem list7 {α : Type} {l : List α} (h : l.length = 7) : ∃ a b c d e f g, l = [a, b, c, d, e, f, g] := by
 match l, h with
 | [a, b, c, d, e, f, g], _ => exact ⟨a, b, c, d, e, f, g, rfl⟩
theorem wf64 {n : Int} (h : (Lit.int .u64 n).wf = true) : 0 <= n /\ n < 18446744073709551616 := by
 have := bounds_u64 h
 omega
def SeW (n : Nd) : Prop := (0 <= n.s0 /\ n.s0 < 18446744073709551616) /\ (0 <= n.s1 /\ n.s1 < 18446744073709551616) /\ (0 <= n.s2 /\ n.s2 < 18446744073709551616) /\ (0 <= n.s3 /\ n.s3 < 18446744073709551616)
theorem zqp {H : Type} {enc : TypeId × Value -> H} {W : World} {held : Bool} {n : Nat} {cs : List Value} {x : DataW H × List MemPlace} (h : DataW.trod enc Tryz.prog W 0 (fun _ => true) held n 51 cs = some x) :
  ∃ nd : Nd, cs = ndV nd /\ nd.tx.size ∈ x.1.weights Tryz.prog 51 /\ SeW nd := by
 obtain ⟨y0, y1, y2, y3, k, hx, hl, h0, h1, h2, h3⟩ := Go.Joins.trod_struct4 Tryz.underlying51 h
 rw [Tryz.cells51] at hl
 obtain ⟨a, b, c, d, e, f, g, rfl⟩ := list7 hl
 simp only [Tryz.cells3, Tryz.cells9, Tryz.cells49, List.drop_zero, List.take_succ_cons, List.take_zero, List.drop_succ_cons] at h0 h1 h2 h3
 obtain ⟨N0, e0, _, _⟩ := DataW.trod_int Tryz.underlying3 h0
 obtain ⟨N1, e1, _, _⟩ := DataW.trod_int Tryz.underlying3 h1
 obtain ⟨s, e2, hs, _⟩ := DataW.trod_string Tryz.underlying9 h2
 obtain ⟨z0, z1, z2, z3, k2, _, g0, g1, g2, g3⟩ := trod_array4 Tryz.underlying49 Tryz.cells47 h3
 obtain ⟨M0, f0, _, m0⟩ := DataW.trod_int Tryz.underlying47 g0
 obtain ⟨M1, f1, _, m1⟩ := DataW.trod_int Tryz.underlying47 g1
 obtain ⟨M2, f2, _, m2⟩ := DataW.trod_int Tryz.underlying47 g2
 obtain ⟨M3, f3, _, m3⟩ := DataW.trod_int Tryz.underlying47 g3
 cases e0; cases e1; cases e2; cases f0; cases f1; cases f2; cases f3
 refine ⟨⟨N0, N1, s, M0, M1, M2, M3⟩, rfl, ?_, wf64 m0, wf64 m1, wf64 m2, wf64 m3⟩
 rw [hx, hs]
 simp only [DataW.weights, Tryz.underlying51]
 simp only [DataW.weightsEach, DataW.weights, List.map_cons, List.mem_append, List.mem_singleton]
 right; right; left
 show s.size = s.data.toList.length
 rw [Array.length_toList]
 rfl
theorem ziA {H : Type} {enc : TypeId × Value -> H} {W : World} {held : Bool} {v : Value} {d : DataW H} {p : List MemPlace} (h : DataW.Trod enc Tryz.prog W 0 (fun _ => true) held 23 v d p) (hv : ∃ a l c, v = .slice a l c) :
  ∃ A c L, v = .slice A L.length c /\ RdN W A L /\ (A = none -> c = 0 /\ L = []) /\ ((∀ n ∈ d.weights Tryz.prog 23, n <= reachBytes) -> L.length * 64 <= 140737488351232 /\ ∀ n ∈ L, n.tx.size <= 140737488351232) /\ ∀ n ∈ L, SeW n := by
 obtain ⟨fuel, hf⟩ := h
 obtain ⟨a0, len0, cap0, rfl⟩ := hv
 have hr : reachBytes = 140737488351232 := by decide
 rcases Go.Deep.open_slice Tryz.underlying23 hf with ⟨hc, hx⟩ | ⟨a, len, cap, m, n, D, Pl, hc, _, hl, hm, hmm, hx, hall⟩
 ·have hc : [Value.slice a0 len0 cap0] = [.slice none 0 0] := hc
  cases hc
  exact ⟨none, 0, [], rfl, fun q => absurd rfl q, fun _ => ⟨rfl, rfl⟩, fun _ => ⟨by simp, fun n hn => by cases hn⟩, fun n hn => by cases hn⟩
 ·have hc : [Value.slice a0 len0 cap0] = [.slice (some a) len cap] := hc
  cases hc
  simp only [if_true] at hmm
  subst hmm
  have hlm : len0 <= m := hl
  have each : ∀ i, i < len0 -> ∃ nd : Nd, (∀ j u, (ndV nd)[j]? = some u -> W.cell? (a.add (i * 7 + j)) = some u) /\ nd.tx.size ∈ (D i).weights Tryz.prog 51 /\ SeW nd := by
   intro i hi
   obtain ⟨cs', h1, h2⟩ := hall i (by omega)
   rw [Tryz.cells51] at h1
   obtain ⟨_, hlen, hcell⟩ := World.cells?_some h1
   obtain ⟨nd, rfl, hw⟩ := zqp h2
   refine ⟨nd, fun j u hj => ?_, hw⟩
   have hj7 : j < 7 := by
    by_cases q : j < 7
    ·exact q
    ·rw [List.getElem?_eq_none (by show (ndV nd).length <= j; show 7 <= j; omega)] at hj; cases hj
   have e := hcell j (by rw [show (ndV nd).length = 7 from rfl] at *; omega)
   rw [Go.Deep.add_add] at e
   rw [e]
   exact hj
  obtain ⟨F, hF⟩ : ∃ F : Nat -> Nd, ∀ i, i < len0 -> (∀ j u, (ndV (F i))[j]? = some u -> W.cell? (a.add (i * 7 + j)) = some u) /\ (F i).tx.size ∈ (D i).weights Tryz.prog 51 /\ SeW (F i) :=
   ⟨fun i => if h : i < len0 then Classical.choose (each i h) else ⟨0, 0, ⟨#[]⟩, 0, 0, 0, 0⟩, fun i h => by simp only [dif_pos h]; exact Classical.choose_spec (each i h)⟩
  refine ⟨some a, m, (List.range len0).map F, by simp, fun hne => ?_, fun q => (by cases q), fun hw => ?_, fun n hn => ?_⟩
  ·have h0 : 0 < len0 := by
    by_cases q : 0 < len0
    ·exact q
    ·have : len0 = 0 := by omega
     subst this
     exact absurd rfl hne
   obtain ⟨g, off, spot⟩ := a
   have hspot : spot = none := by simpa [Addr.add] using World.cell?_spot ((hF 0 h0).1 0 _ rfl)
   subst hspot
   refine ⟨g, off, rfl, World.block_lt_of_cell? W _ ((hF 0 h0).1 0 _ rfl), fun j nd hj => ?_⟩
   rw [List.getElem?_map] at hj
   have hj2 : j < len0 := by
    by_cases q : j < len0
    ·exact q
    ·rw [List.getElem?_eq_none (by simp; omega)] at hj; cases hj
   rw [List.getElem?_range hj2] at hj
   cases hj
   have key : ∀ i u, (ndV (F j))[i]? = some u -> W.cell? ⟨g, off + j * 7 + i, none⟩ = some u := fun i u hu => by
    have e := (hF j hj2).1 i u hu
    rw [Addr.add_lit, <- Nat.add_assoc] at e
    exact e
   exact ⟨key 0 _ rfl, key 1 _ rfl, key 2 _ rfl, key 3 _ rfl, key 4 _ rfl, key 5 _ rfl, key 6 _ rfl⟩
  ·have hd : d = .slice ((List.range len0).map D) ((List.range (m - len0)).map fun j => D (len0 + j)) := congrArg Prod.fst hx
   rw [hd] at hw
   simp only [DataW.weights, Tryz.underlying23] at hw
   refine ⟨?_, fun nd hnd => ?_⟩
   ·have := hw _ (List.mem_cons_self ..)
    rw [Tryz.bytes51, hr] at this
    simp only [List.length_map, List.length_range] at this ⊢
    omega
   ·obtain ⟨i, hi, rfl⟩ := List.mem_map.1 hnd
    have hi2 := List.mem_range.1 hi
    have := hw _ (List.mem_cons_of_mem _ (List.mem_append_left _ (zdc _ 51 _ (D i) (List.mem_map.2 ⟨i, hi, rfl⟩) _ (hF i hi2).2.1)))
    rw [hr] at this
    exact this
  ·obtain ⟨i, hi, rfl⟩ := List.mem_map.1 hn
   exact (hF i (List.mem_range.1 hi)).2.2
end Go.Proofs.YtnpifgcgjgddoaaGreatDoor.T
namespace Go.Proofs.YtnpifgcgjgddoaaGreatDoor.N
open Go.RowKit
theorem znz (b : Nat) (w : World) (h0 : w.cell? ⟨b, 0, none⟩ = some (.pointer none)) (hsh : w.shape? b = some (59, 2)) (hfz : w.frozen? ⟨b, 0, none⟩ = false) :
  Calls Tryz.prog 71 #[.pointer (some ⟨b, 0, none⟩)] w fun e w' => e = .returned (.tuple #[]) /\ w' = w.setCell ⟨b, 0, none⟩ (.pointer (some ⟨b, 0, none⟩)) := by
 obtain ⟨j, hj, hjs⟩ := Option.map_eq_some_iff.1 Tryz.sizeB
 go_enter Tryz.func71, Tryz.ntmps71
 go_wp2
 rw [Lib.run_to_unsafe w ⟨b, 0, none⟩ Tryz.underlying54 Tryz.underlying140 hj (by rw [hjs]; decide) hsh (Nat.zero_lt_succ 1)]
 simp only [Result.andThen]
 rw [Oper.upon_value]
 go_wp2
 rw [run_callFunc_extern Tryz.func94 (by kernel_rfl) (by kernel_rfl) (by kernel_rfl) (e := Extern.AbiNoEscape.same) (by kernel_rfl)]
 rw [Lib.run_noEscape]
 simp only [Result.andThen]
 rw [Oper.upon_value]
 go_wp2
 rw [Lib.run_from_unsafe w ⟨b, 0, none⟩ Tryz.underlying140 Tryz.underlying54 hj hsh (by kernel_rfl)]
 simp only [Result.andThen]
 rw [Oper.upon_value]
 go_wp2
 go_end0
 exact ⟨rfl, rfl⟩
theorem znA (b : Nat) (bs : List Value) (w : World) (h : Lib.IsBuilder 59 5 b b bs w) :
  Calls Tryz.prog 71 #[.pointer (some ⟨b, 0, none⟩)] w fun e w' => e = .returned (.tuple #[]) /\ Lib.BuilderAt 59 5 b b (.pointer (some ⟨b, 0, none⟩)) bs w' /\ Below b w w' /\ KeepT b w w' := by
 rcases h with h | h
 ·refine (znz b w h.cell0 h.shape h.frozen0).mono ?_
  rintro e w' ⟨rfl, rfl⟩
  exact ⟨rfl, h.used _, (Below.refl b w).setCell (p := ⟨b, 0, none⟩) h.1 _, KeepT.setCell b 0 w _⟩
 ·refine (zcP b w h.cell0).mono ?_
  rintro e w' ⟨rfl, rfl⟩
  exact ⟨rfl, h, Below.refl b _, KeepT.refl b _⟩
theorem znB (b : Nat) (bs : List Value) (s : ByteArray) (w : World) (h : Lib.IsBuilder 59 5 b b bs w) (hlen : bs.length + s.size <= 140737488355328) :
  Calls Tryz.prog 48 #[.pointer (some ⟨b, 0, none⟩), .string s] w fun e w' => e = .returned (.tuple #[.int .i64 s.size, .nilIface]) /\ Lib.IsBuilder 59 5 b b (bs ++ Lib.strCells s) w' /\ Below b w w' /\ KeepT b w w' := by
 obtain ⟨i0, hi, hz0, hz1, hz2⟩ := info_parts Tryz.info5
 go_enter Tryz.func48, Tryz.ntmps48
 go_wp2_with fail
 refine (znA b bs _ h).mono ?_
 rintro e w1 ⟨rfl, h1, hb1, hk1⟩
 have hlt := h1.lt
 obtain ⟨hB, v, hbk, hown, hne⟩ := h1
 have c0 : w1.cell? ⟨b, 0, none⟩ = some (.pointer (some ⟨b, 0, none⟩)) := by rw [Lib.cell_of_heap hbk]; rfl
 have c1 : w1.cell? ⟨b, 1, none⟩ = some v := by rw [Lib.cell_of_heap hbk]; rfl
 go_wp2_with (at_builtin; refine Lib.wpList_append_own_string _ rfl _ _ 55 9 rfl b 5 i0 Tryz.underlying55 Tryz.underlying9 hi hz0 hz1 hz2 _ _ _ rfl hown s rfl ?c3 ?c4 ?c5 ?_)
 case c3 => unfold maxLen; omega
 case c4 => omega
 case c5 => omega
 intro v' w2 hown' hgrow _
 have hb2 : w2.heap[b]? = some (.cells #[.pointer (some ⟨b, 0, none⟩), v] 59 (0, 0)) := by
  rw [hgrow.block b hlt (fun e => hne e.symm)]
  exact hbk
 have d0 : w2.cell? ⟨b, 0, none⟩ = some (.pointer (some ⟨b, 0, none⟩)) := by rw [Lib.cell_of_heap hb2]; rfl
 have d1 : w2.cell? ⟨b, 1, none⟩ = some v := by rw [Lib.cell_of_heap hb2]; rfl
 have f1 : w2.frozen? ⟨b, 1, none⟩ = false := Lib.frozen_of_heap hb2 1
 obtain ⟨ao, n', cap, rfl⟩ : ∃ ao n' cap, v' = .slice ao n' cap := by
  rcases hown'.2 with ⟨hv, _⟩ | ⟨g, cap, cur, hv, _⟩
  ·exact ⟨_, _, _, hv⟩
  ·exact ⟨_, _, _, hv⟩
 go_wp2
 go_ret2
 refine ⟨rfl, .inr ?_, ?_, ?_⟩
 ·exact Lib.BuilderAt.put (T := 59) (e := 5) hB hb2 (bs' := bs ++ Lib.strCells s) (by simpa [Lib.strCells_length] using hown') (by decide)
 ·exact (hb1.grown hgrow (by omega) (fun k hk => (hown.lt k hk).1)).setCell (p := ⟨b, 1, none⟩) hB _
 ·exact (hk1.trans (KeepT.grown hown hgrow)).trans (KeepT.setCell b 1 w2 _)
theorem pg_len (b : Nat) (bs : List Value) (w : World) (h : Lib.IsBuilder 59 5 b b bs w) : Calls Tryz.prog 50 #[.pointer (some ⟨b, 0, none⟩)] w fun e w' => e = .returned (.int .i64 bs.length) /\ w' = w := by
 obtain ⟨p, hB, v, hbk, hown, hne⟩ : ∃ p, Lib.BuilderAt 59 5 b b p bs w := by
  rcases h with h | h
  ·exact ⟨_, h⟩
  ·exact ⟨_, h⟩
 have c1 : w.cell? ⟨b, 1, none⟩ = some v := by rw [Lib.cell_of_heap hbk]; rfl
 obtain ⟨ao, cap, rfl⟩ : ∃ ao cap, v = .slice ao bs.length cap := by
  rcases hown.2 with ⟨hv, hz⟩ | ⟨g, cap, cur, hv, _⟩
  ·exact ⟨none, 0, by rw [hv, hz]⟩
  ·exact ⟨_, _, hv⟩
 go_enter Tryz.func50, Tryz.ntmps50
 go_wp2
 go_ret
 exact ⟨rfl, rfl⟩
theorem zqq (b : Nat) (l : List UInt8) (w : World) (h : Lib.IsBuilder 59 5 b b (Lib.byteCells l) w) (h0 : l ≠ []) : Calls Tryz.prog 51 #[.pointer (some ⟨b, 0, none⟩)] w fun e w' => e = .returned (.string ⟨l.toArray⟩) /\ Below b w w' := by
 obtain ⟨p, hB, v, hbk, hown, hne⟩ : ∃ p, Lib.BuilderAt 59 5 b b p (Lib.byteCells l) w := by
  rcases h with h | h
  ·exact ⟨_, h⟩
  ·exact ⟨_, h⟩
 have hl0 : l.length ≠ 0 := by simpa using h0
 rw [Lib.byteCells_length] at hown
 obtain ⟨g, cap, cur, rfl, hbg, hg, hnc, hcm, hcs, htake⟩ : ∃ g cap cur, v = .slice (some ⟨g, 0, none⟩) l.length cap /\ b <= g /\ w.heap[g]? = some (.cells cur 5 (0, 0)) /\ l.length <= cap /\ cap <= maxLen /\ cur.size = cap * 1 /\ cur.toList.take (l.length * 1) = Lib.byteCells l := by
  rcases hown.2 with ⟨_, hz⟩ | ⟨g, cap, cur, hv, r⟩
  ·exact absurd hz hl0
  ·exact ⟨g, cap, cur, hv, r⟩
 have c1 : w.drew.cell? ⟨b, 1, none⟩ = some (.slice (some ⟨g, 0, none⟩) l.length cap) := by
  have : w.drew.heap[b]? = some (.cells #[p, .slice (some ⟨g, 0, none⟩) l.length cap] 59 (0, 0)) := hbk
  rw [Lib.cell_of_heap this]; rfl
 have hSD : (Builtin.unsafeSliceData_ #[55] 128 #[.slice (some ⟨g, 0, none⟩) l.length cap]).run Tryz.prog w.drew = .ok (.pointer (some ⟨g, 0, none⟩)) w.drew :=
  Lib.run_unsafeSliceData_row _ _ _ _ _ _ (by omega)
 have hUS : (Builtin.unsafeString_ #[128, 3] 9 #[.pointer (some ⟨g, 0, none⟩), .int .i64 l.length]).run Tryz.prog w.drew = .ok (.string ⟨l.toArray⟩) (w.drew.freeze ⟨g, 0, none⟩ l.length) := by
  refine Lib.run_unsafeString_row w.drew 128 3 9 5 Tryz.underlying128 (by kernel_rfl) g cur.size (by have hg' : w.drew.heap[g]? = some (.cells cur 5 (0, 0)) := hg; simp [World.shape?, hg']) l h0 (by omega) (by unfold maxLen at hcm; omega) ?_
  intro j x hx
  have := hown.cells (g := g) rfl j (.int .u8 x.toNat) (by simp [Lib.byteCells, hx])
  exact this
 have mixed : Tryz.prog.follows Departure.mixedOrders = true := by kernel_rfl
 go_enter Tryz.func51, Tryz.ntmps51
 go_wp2
 go_region_o
 all_goals (go_wp2; go_ret; exact ⟨rfl, Lib.below_freeze (Below.drew (Below.refl b w)) (p := ⟨g, 0, none⟩) hbg _⟩)
theorem dlen (s : ByteArray) : s.data.toList.length = s.size := by rw [Array.length_toList]; rfl
def zeE (ss : List ByteArray) : List UInt8 := ss.flatMap fun s => s.data.toList
theorem zln {ss : List ByteArray} {k : Nat} {s : ByteArray} (h : ss[k]? = some s) : zeE (ss.take (k + 1)) = zeE (ss.take k) ++ s.data.toList := by
 rw [List.take_add_one, h]
 unfold zeE
 rw [List.flatMap_append]
 simp
theorem zgH (ss : List ByteArray) (k : Nat) : (zeE (ss.take k)).length <= (zeE ss).length := by
 have h : zeE ss = zeE (ss.take k) ++ zeE (ss.drop k) := by
  unfold zeE
  rw [<- List.flatMap_append, List.take_append_drop]
 rw [h, List.length_append]
 omega
structure Pg (b : Nat) (w wr : World) (bs : List UInt8) : Prop where
 i : Lib.IsBuilder 59 5 b b (Lib.byteCells bs) wr
 bl : Below b w wr
 k : KeepT b w wr
theorem Pg.start {b : Nat} {w : World} {bs : List UInt8} (h : Lib.IsBuilder 59 5 b b (Lib.byteCells bs) w) : Pg b w w bs := ⟨h, Below.refl _ _, KeepT.refl _ _⟩
theorem zhx {b : Nat} {w : World} {bs : List Value} (h : Lib.IsBuilder 59 5 b b bs w) : b < w.heap.size := by
 rcases h with h | h
 ·exact h.lt
 ·exact h.lt
theorem zfV {w w' : World} {b : Nat} {bs : List Value} (h : Lib.IsBuilder 59 5 b b bs w) (hb : Below w.heap.size w w') : Lib.IsBuilder 59 5 b b bs w' := by
 have key : ∀ p, Lib.BuilderAt 59 5 b b p bs w -> Lib.BuilderAt 59 5 b b p bs w' := fun p hp => by
  have hlt := hp.lt
  obtain ⟨hB, v, hbk, hown, hne⟩ := hp
  exact ⟨hB, v, (hb.block b hlt).trans hbk, T.zaX hown hb, hne⟩
 exact h.imp (key _) (key _)
theorem Pg.later {b : Nat} {w wr w2 : World} {bs : List UInt8} (h : Pg b w wr bs) (hb : Below wr.heap.size wr w2) : Pg b w w2 bs :=
 ⟨zfV h.i hb, h.bl.trans (hb.mono (Nat.le_of_lt (zhx h.i))), h.k.trans (KeepT.below hb)⟩
theorem Pg.trans {b : Nat} {w w1 w2 : World} {bs bs' : List UInt8} (h : Pg b w w1 bs) (k : Pg b w1 w2 bs') : Pg b w w2 bs' := ⟨k.i, h.bl.trans k.bl, h.k.trans k.k⟩
structure Fx (W : World) (b g : Nat) (c : Array Value) (t : TypeId) : Prop where
 e : ∃ fr, W.heap[g]? = some (.cells c t fr)
 n : g ≠ b
 t : t ≠ 5
theorem Fx.keep {W W' : World} {b g : Nat} {c : Array Value} {t : TypeId} (h : Fx W b g c t) (k : KeepT b W W') : Fx W' b g c t := by
 obtain ⟨⟨fr, he⟩, hn, ht⟩ := h
 refine ⟨⟨fr, ?_⟩, hn, ht⟩
 rw [k.block g (Array.getElem?_eq_some_iff.1 he).1 hn (fun c' fr' q => by rw [he] at q; cases q; exact ht rfl)]
 exact he
theorem Fx.cell {W : World} {b g : Nat} {c : Array Value} {t : TypeId} (h : Fx W b g c t) (j : Nat) : W.cell? ⟨g, j, none⟩ = c[j]? := by
 obtain ⟨⟨fr, he⟩, _, _⟩ := h
 exact Lib.cell_of_heap he j
theorem zlo (b g : Nat) (bs : List UInt8) (ss : List ByteArray) (w : World) (h : Lib.IsBuilder 59 5 b b (Lib.byteCells bs) w) (hr : Fx w b g (ss.map Value.string).toArray 9) (hlen : bs.length + (zeE ss).length <= 140737488355328) (hn : ss.length <= 2) :
  Calls Tryz.prog 27 #[.pointer (some ⟨b, 0, none⟩), .slice (some ⟨g, 0, none⟩) ss.length ss.length] w fun e w' => e = .returned (.tuple #[]) /\ Pg b w w' (bs ++ zeE ss) := by
 have HP : Hid (Pg b w w (bs ++ zeE (ss.take 0))) := by
  show Pg b w w (bs ++ zeE (ss.take 0))
  rw [List.take_zero]; show Pg b w w (bs ++ []); rw [List.append_nil]; exact Pg.start h
 have HR : Hid (Fx w b g (ss.map Value.string).toArray 9) := hr
 have HL : Hid (bs.length + (zeE ss).length <= 140737488355328) := hlen
 have HG : Hid (∀ k, k < ss.length -> ∃ s, ss[k]? = some s) := fun k hk => ⟨_, List.getElem?_eq_getElem hk⟩
 have HT : Hid (ss.take ss.length = ss) := List.take_length
 clear h hr hlen
 generalize hm : ss.length = m at *
 go_enter Tryz.func27, Tryz.ntmps27
 go_wp2_with fail
 go_loopw [8] (fun t wr => ∃ k : Nat, k <= m /\ t = .int .i64 k /\ Hid (Pg b w wr (bs ++ zeE (ss.take k)))) (fun t _ => m - (intOf t).toNat)
 case atStart => exact ⟨0, by omega, by go_num, HP⟩
 case round =>
  obtain ⟨k, hk, rfl, HW⟩ := hrel
  clear HP
  by_cases hlt : k < m
  ·obtain ⟨s, hs⟩ := HG.out k hlt
   have c0 : wr.cell? ⟨g, k, none⟩ = some (.string s) := by
    rw [(HR.out.keep HW.out.k).cell k]
    simp [hs]
   have HE : Hid (zeE (ss.take (k + 1)) = zeE (ss.take k) ++ s.data.toList) := zln hs
   have hle := zgH ss (k + 1)
   have hL := HL.out
   have HC : Hid (∀ _ : Unit, Calls Tryz.prog 48 #[.pointer (some ⟨b, 0, none⟩), .string s] wr fun e w' => e = .returned (.tuple #[.int .i64 s.size, .nilIface]) /\ Lib.IsBuilder 59 5 b b (Lib.byteCells (bs ++ zeE (ss.take k)) ++ Lib.strCells s) w' /\ Below b wr w' /\ KeepT b wr w') := fun _ => znB b _ s wr HW.out.i (by
    rw [HE.out, List.length_append] at hle
    rw [Lib.byteCells_length, List.length_append]
    have := dlen s
    omega)
   have z0 : (0 : Int) <= (k : Int) := by omega
   have z1 : (k : Int) < (m : Int) := by omega
   clear hle hL hs HG HL
   go_wp2_with fail
   refine (HC.out ()).mono ?_
   rintro e w1 ⟨rfl, i1, b1, k1⟩
   have HW2 : Hid (Pg b w w1 (bs ++ zeE (ss.take (k + 1)))) := by
    show Pg b w w1 _
    rw [HE.out, <- List.append_assoc]
    refine ⟨?_, HW.out.bl.trans b1, HW.out.k.trans k1⟩
    rw [bcells, <- scells]
    exact i1
   clear HC HE HW i1 b1 k1 c0
   go_wp2_with fail
   go_roundw
   case rel => exact ⟨k + 1, by omega, by go_num, HW2⟩
   case measure => simp [intOf]; omega
  ·have z1 : ¬ (k : Int) < (m : Int) := by omega
   have hkm : k = m := by omega
   subst hkm
   clear HG
   go_wp2_with fail
   go_end0
   have := HW.out
   rw [HT.out] at this
   exact ⟨rfl, this⟩
def noS (E : PE) (i : Nat) : Prop := zdE E i = .inr none
theorem zgI {E : PE} {i : Nat} (h0 : kdA E i ≠ 10) (h1 : kdA E i ≠ 11) (h2 : kdA E i ≠ 12) (h3 : kdA E i ≠ 13) (h4 : kdA E i ≠ 14) (h5 : kdA E i ≠ 15) (h6 : kdA E i ≠ 27) : noS E i := by
 unfold noS zdE zgT
 rw [if_neg h0, if_neg h1, if_neg h2, if_neg h3, if_neg h4, if_neg h5, if_neg h6]
theorem zlp {E : PE} {i : Nat} (h : bgn E i = true) : kdA E i = 8 ∨ kdA E i = 9 ∨ kdA E i = 2 ∨ kdA E i = 3 ∨ kdA E i = 28 ∨ kdA E i = 5 ∨ kdA E i = 18 ∨ kdA E i = 29 ∨ kdA E i = 30 ∨ kdA E i = 16 ∨ kdA E i = 19 ∨ kdA E i = 21 ∨ kdA E i = 23 ∨ kdA E i = 25 ∨ kdA E i = 1 := by
 unfold bgn bgK at h
 simp only [Bool.or_eq_true, Bool.and_eq_true, beq_iff_eq] at h
 omega
theorem zqr {E : PE} {i : Nat} (h : bgn E i = true) : noS E i := by
 have := zlp h
 exact zgI (by omega) (by omega) (by omega) (by omega) (by omega) (by omega) (by omega)
theorem zlq {E : PE} {i : Nat} (h0 : bgK (kdA E i) = false) (h1 : kdA E i ≠ 1) : bgn E i = false := by
 unfold bgn
 rw [h0, Bool.false_or, Bool.and_eq_false_iff]
 exact .inl (bF h1)
theorem g6_noS {E : PE} {i d : Nat} (hi : i <= E.l.length) (h : noS E i) : gN E 6 i d = .inl (i, []) := by
 rw [g6 E i d hi, h]
theorem g3_no {E : PE} {i d : Nat} (hi : i <= E.l.length) (h : bgn E i = false) : gN E 3 i d = .inl (i, []) := by
 rw [g3 E i d hi, if_neg (by rw [h]; decide)]
theorem zqs {E : PE} {i d : Nat} (hi : i <= E.l.length) (h : kdA E i ≠ 7) : gN E 1 i d = .inl (i, []) := by
 rw [g1 E i d hi, if_neg h]
structure S3 (E : PE) (i d a : Nat) (L : List Nd) : Prop where
 b : bgn E i = true
 k : ¬ (kdA E i = 8 ∨ kdA E i = 9)
 l : i < a
 r : a <= E.l.length
 e : (bnd (gN E 5 i d) fun a ns => ahd ns (gN E 6 a d)) = ahd L (gN E 6 a d)
structure S2 (E : PE) (i d a : Nat) (L : List Nd) : Prop where
 b : bgn E i = true
 l : i < a
 r : a <= E.l.length
 e : noS E a -> gN E 4 i d = .inl (a, L)
structure S1 (E : PE) (i d a : Nat) (L : List Nd) : Prop where
 b : bgn E i = true
 l : i < a
 r : a <= E.l.length
 e : noS E a -> gN E 2 i d = ahd L (gN E 3 a d)
structure S0 (E : PE) (i d a : Nat) (L : List Nd) : Prop where
 b : bgn E i = true
 l : i < a
 r : a <= E.l.length
 e : noS E a -> bgn E a = false -> gN E 0 i d = ahd L (gN E 1 a d)
theorem zdK (L : List Nd) (a : Nat) : ahd L (.inl (a, [])) = .inl (a, L) := by show Sum.inl _ = Sum.inl _; rw [List.append_nil]
theorem S3.of5 {E : PE} {i d a : Nat} {L : List Nd} (hb : bgn E i = true) (hk : ¬ (kdA E i = 8 ∨ kdA E i = 9)) (hl : i < a) (hr : a <= E.l.length) (h : gN E 5 i d = .inl (a, L)) : S3 E i d a L :=
 ⟨hb, hk, hl, hr, by rw [h]; rfl⟩
theorem S3.leaf {E : PE} {i d c : Nat} {L : List Nd} (hb : bgn E i = true) (hk : ¬ (kdA E i = 8 ∨ kdA E i = 9)) (hp : za2 E i = .inl (L, c)) : S3 E i d (i + c) L := by
 have hl := zgY (zcz hb) hp
 refine S3.of5 hb hk (by have := hl.1; dsimp only at this; omega) hl.2 ?_
 rw [g5 E i d (zcz hb), hp]
theorem S3.wit {E : PE} {i d a : Nat} {L ns : List Nd} {c : Int} (hb : bgn E i = true) (hk : ¬ (kdA E i = 8 ∨ kdA E i = 9)) (hp : za2 E i = .inr (c, ns)) (hd : d < 240) (h : S0 E (i + 1) (d + 1) a L) (hc : kdA E a = c) (hcc : c = 17 ∨ c = 20 ∨ c = 22 ∨ c = 24 ∨ c = 26) : S3 E i d (a + 1) (L ++ ns) := by
 have hal : a < E.l.length := zbi (by omega)
 have h1 : gN E 0 (i + 1) (d + 1) = .inl (a, L) := by
  rw [h.e (zgI (by omega) (by omega) (by omega) (by omega) (by omega) (by omega) (by omega)) (zlq (by rw [hc]; rcases hcc with q | q | q | q | q <;> rw [q] <;> rfl) (by omega)), zqs h.r (by omega), zdK]
 refine S3.of5 hb hk (by have := h.l; omega) hal ?_
 rw [g5 E i d (zcz hb), hp]
 dsimp only
 rw [if_neg (by omega), h1]
 show (if kdA E a = c then _ else _) = _
 rw [if_pos hc]
theorem S3.suf {E : PE} {i d a c : Nat} {L : List Nd} {n : Nd} (h : S3 E i d a L) (hs : zdE E a = .inl (n, c)) : S3 E i d (a + c) (L ++ [n]) := by
 have hl := zhW hs
 refine ⟨h.b, h.k, by have := h.l; omega, hl.2, ?_⟩
 rw [h.e, g6 E a d h.r, hs]
 dsimp only
 rw [zc5]
theorem S2.of3 {E : PE} {i d a : Nat} {L : List Nd} (h : S3 E i d a L) : S2 E i d a L := by
 refine ⟨h.b, h.l, h.r, fun hn => ?_⟩
 rw [g4 E i d (by have := h.l; have := h.r; omega), if_pos h.b, if_neg h.k, h.e, g6_noS h.r hn, zdK]
theorem S2.pre {E : PE} {i d a : Nat} {L : List Nd} (hk : kdA E i = 8 ∨ kdA E i = 9) (hd : d < 240) (h : S2 E (i + 1) (d + 1) a L) : S2 E i d a (L ++ [nd0 (if kdA E i = 8 then 12 else 13)]) := by
 have hb : bgn E i = true := by
  unfold bgn bgK
  rcases hk with q | q <;> rw [q] <;> rfl
 refine ⟨hb, by have := h.l; omega, h.r, fun hn => ?_⟩
 rw [g4 E i d (by have := h.l; have := h.r; omega), if_pos hb, if_pos hk, if_neg (by omega), h.e hn]
 rfl
theorem S1.of2 {E : PE} {i d a : Nat} {L : List Nd} (h : S2 E i d a L) : S1 E i d a L := by
 refine ⟨h.b, h.l, h.r, fun hn => ?_⟩
 rw [g2 E i d (by have := h.l; have := h.r; omega), h.e hn]
 rfl
theorem S1.seq {E : PE} {i d b a : Nat} {L M : List Nd} (h1 : S1 E i d b L) (h2 : S2 E b d a M) : S1 E i d a (L ++ M ++ [nd0 7]) := by
 refine ⟨h1.b, by have := h1.l; have := h2.l; omega, h2.r, fun hn => ?_⟩
 rw [h1.e (zqr h2.b), g3 E b d h1.r, if_pos h2.b, h2.e hn]
 show ahd L (ahd (M ++ [nd0 7]) _) = _
 rw [zc5, List.append_assoc]
theorem S0.of1 {E : PE} {i d a : Nat} {L : List Nd} (h : S1 E i d a L) : S0 E i d a L := by
 refine ⟨h.b, h.l, h.r, fun hn hb => ?_⟩
 rw [g0 E i d (by have := h.l; have := h.r; omega), h.e hn, g3_no h.r hb, zdK]
 rfl
theorem S0.alt {E : PE} {i d b a : Nat} {L M : List Nd} (h1 : S0 E i d b L) (hk : kdA E b = 7) (h2 : S1 E (b + 1) d a M) : S0 E i d a (L ++ M ++ [nd0 8]) := by
 refine ⟨h1.b, by have := h1.l; have := h2.l; omega, h2.r, fun hn hb => ?_⟩
 rw [h1.e (zgI (by omega) (by omega) (by omega) (by omega) (by omega) (by omega) (by omega)) (zlq (by rw [hk]; rfl) (by omega)), g1 E b d h1.r, if_pos hk, h2.e hn, g3_no h2.r hb, zdK]
 show ahd L (ahd (M ++ [nd0 8]) _) = _
 rw [zc5, List.append_assoc]
def hld (op : Int) : Nat := if op = 8 then 0 else if op = 7 then 1 else if op = 12 ∨ op = 13 then 2 else if op = 9 ∨ op = 10 ∨ op = 11 ∨ op = 14 ∨ op = 15 ∨ op = 16 ∨ op = 22 ∨ op = 23 then 3 else 4
abbrev It := Option Tk
def sgI (k : Int) : It := some ⟨k, 0, 0, 0, ⟨#[]⟩, 0, 0, 0, 0⟩
def nuI (k n : Int) : It := some ⟨k, n, 0, 0, ⟨#[]⟩, 0, 0, 0, 0⟩
def txI (k : Int) (s : ByteArray) : It := some ⟨k, 0, 0, 0, s, 0, 0, 0, 0⟩
abbrev Ent := Nat × List It
def zat (k : Nat) (e : Ent) : List It := if e.1 < k then [sgI 16] ++ (e.2 ++ [sgI 17]) else e.2
def zaj (n : Nd) (a b : Ent) : List It :=
 if n.op = 1 then [sgI 29] else if n.op = 2 then [sgI 30] else if n.op = 3 then [sgI 18] else if n.op = 4 then [txI 2 n.tx]
 else if n.op = 5 then [some ⟨3, 0, 0, 0, ⟨#[]⟩, n.s0, n.s1, n.s2, n.s3⟩] else if n.op = 6 then [txI 1 n.tx]
 else if n.op = 7 then zat 1 a ++ ([none] ++ zat 2 b) else if n.op = 8 then zat 0 a ++ ([none, sgI 7, none] ++ zat 1 b)
 else if n.op = 9 then zat 3 a ++ [sgI 11] else if n.op = 10 then zat 3 a ++ [sgI 12] else if n.op = 11 then zat 3 a ++ [sgI 10]
 else if n.op = 12 then [sgI 8] ++ zat 2 a else if n.op = 13 then [sgI 9] ++ zat 2 a
 else if n.op = 14 then zat 3 a ++ [nuI 13 n.nn] else if n.op = 15 then zat 3 a ++ [nuI 14 n.nn] else if n.op = 16 then zat 3 a ++ [nuI 15 n.nn]
 else if n.op = 17 then [sgI 19, sgI 20] else if n.op = 18 then [sgI 19] ++ (zat 0 a ++ [sgI 20])
 else if n.op = 19 then [txI 21 n.tx, none] ++ (zat 0 a ++ [none, sgI 22]) else if n.op = 20 then [sgI 23, none] ++ (zat 0 a ++ [none, sgI 24])
 else if n.op = 21 then [sgI 25, none] ++ (zat 0 a ++ [none, sgI 26])
 else if n.op = 22 then zat 3 a ++ [none, sgI 27, none, txI 2 n.tx] else zat 3 a ++ [none, sgI 27, none, nuI 4 n.nn]
def zbu (l : List It) : List Tk := l.filterMap id
theorem zbt (a b : List It) : zbu (a ++ b) = zbu a ++ zbu b := List.filterMap_append
def Occ (E : PE) (i : Nat) (ts : List Tk) : Prop := ∀ j t, ts[j]? = some t -> ∃ u, E.l[i + j]? = some u /\ lkT u = lkT t
theorem Occ.left {E : PE} {i : Nat} {a b : List Tk} (h : Occ E i (a ++ b)) : Occ E i a := fun j t ht => h j t (by rw [List.getElem?_append_left (List.getElem?_eq_some_iff.1 ht).1]; exact ht)
theorem Occ.right {E : PE} {i : Nat} {a b : List Tk} (h : Occ E i (a ++ b)) : Occ E (i + a.length) b := fun j t ht => by
 have := h (a.length + j) t (by rw [List.getElem?_append_right (by omega), Nat.add_sub_cancel_left]; exact ht)
 rwa [<- Nat.add_assoc] at this
theorem Occ.tk {E : PE} {i : Nat} {t : Tk} {ts : List Tk} (h : Occ E i (t :: ts)) : i < E.l.length /\ kdA E i = t.kd /\ (tkA E i).kd = t.kd /\ (tkA E i).nn = t.nn /\ (tkA E i).tx = t.tx /\ (tkA E i).s0 = t.s0 /\ (tkA E i).s1 = t.s1 /\ (tkA E i).s2 = t.s2 /\ (tkA E i).s3 = t.s3 := by
 obtain ⟨u, hu, he⟩ := h 0 t rfl
 rw [Nat.add_zero] at hu
 have e1 : tkA E i = u := by unfold tkA; rw [hu]; rfl
 have e2 : kdA E i = u.kd := by unfold kdA; rw [hu]
 rw [e1, e2]
 refine ⟨(List.getElem?_eq_some_iff.1 hu).1, ?_, ?_, ?_, ?_, ?_, ?_, ?_, ?_⟩
 ·have h := congrArg Tk.kd he; exact h
 ·have h := congrArg Tk.kd he; exact h
 ·have h := congrArg Tk.nn he; exact h
 ·have h := congrArg Tk.tx he; exact h
 ·have h := congrArg Tk.s0 he; exact h
 ·have h := congrArg Tk.s1 he; exact h
 ·have h := congrArg Tk.s2 he; exact h
 ·have h := congrArg Tk.s3 he; exact h
theorem Occ.next {E : PE} {i : Nat} {t : Tk} {ts : List Tk} (h : Occ E i (t :: ts)) : Occ E (i + 1) ts := Occ.right (a := [t]) h
def Rz (h : Nat) (E : PE) (i d a : Nat) (Q : List Nd) : Prop := if h = 0 then S0 E i d a Q else if h = 1 then S1 E i d a Q else if h = 2 then S2 E i d a Q else S3 E i d a Q
theorem Rz.s3 {h : Nat} {E : PE} {i d a : Nat} {Q : List Nd} (q : Rz h E i d a Q) (hh : 3 <= h) : S3 E i d a Q := by
 unfold Rz at q
 rwa [if_neg (by omega), if_neg (by omega), if_neg (by omega)] at q
theorem Rz.s2 {h : Nat} {E : PE} {i d a : Nat} {Q : List Nd} (q : Rz h E i d a Q) (hh : 2 <= h) : S2 E i d a Q := by
 by_cases h2 : h = 2
 ·subst h2; exact q
 ·exact S2.of3 (q.s3 (by omega))
theorem Rz.s1 {h : Nat} {E : PE} {i d a : Nat} {Q : List Nd} (q : Rz h E i d a Q) (hh : 1 <= h) : S1 E i d a Q := by
 by_cases h2 : h = 1
 ·subst h2; exact q
 ·exact S1.of2 (q.s2 (by omega))
theorem Rz.s0 {h : Nat} {E : PE} {i d a : Nat} {Q : List Nd} (q : Rz h E i d a Q) : S0 E i d a Q := by
 by_cases h2 : h = 0
 ·subst h2; exact q
 ·exact S0.of1 (q.s1 (by omega))
theorem Rz.of3 {h : Nat} {E : PE} {i d a : Nat} {Q : List Nd} (q : S3 E i d a Q) (hh : 3 <= h) : Rz h E i d a Q := by
 unfold Rz
 rwa [if_neg (by omega), if_neg (by omega), if_neg (by omega)]
theorem Rz.low {h k : Nat} {E : PE} {i d a : Nat} {Q : List Nd} (q : Rz h E i d a Q) (hk : k <= h) : Rz k E i d a Q := by
 by_cases k0 : k = 0
 ·subst k0; exact q.s0
 ·by_cases k1 : k = 1
  ·subst k1; exact q.s1 hk
  ·by_cases k2 : k = 2
   ·subst k2; exact q.s2 hk
   ·exact Rz.of3 (q.s3 (by omega)) (by omega)
def Rds (h : Nat) (its : List It) (Q : List Nd) (ht : Nat) : Prop := ∀ (E : PE) (i d : Nat), E.tm = T.tmB -> Occ E i (zbu its) -> kdA E (i + (zbu its).length) ≠ 6 -> d + ht <= 240 -> Rz h E i d (i + (zbu its).length) Q
theorem Rds.low {h k : Nat} {its : List It} {Q : List Nd} {ht : Nat} (q : Rds h its Q ht) (hk : k <= h) : Rds k its Q ht := fun E i d h1 h2 h3 h4 => (q E i d h1 h2 h3 h4).low hk
theorem Rds.high {h : Nat} {its : List It} {Q : List Nd} {ht ht' : Nat} (q : Rds h its Q ht) (hk : ht <= ht') : Rds h its Q ht' := fun E i d h1 h2 h3 h4 => q E i d h1 h2 h3 (by omega)
theorem kd_ne {E : PE} {i : Nat} (h : bgn E i = true) : kdA E i ≠ 6 := by have := zlp h; omega
theorem zeF {its : List It} {Q ns : List Nd} {ht : Nat} {o c : Tk} (q : Rds 0 its Q ht) (ho : o.kd = 16 ∨ o.kd = 19 ∨ o.kd = 21 ∨ o.kd = 23 ∨ o.kd = 25)
  (hp : ∀ (E : PE) (i : Nat), (tkA E i).kd = o.kd -> (tkA E i).tx = o.tx -> bgn E (i + 1) = true -> za2 E i = .inr (c.kd, ns)) (hc : c.kd = 17 ∨ c.kd = 20 ∨ c.kd = 22 ∨ c.kd = 24 ∨ c.kd = 26) (x y : List It) (hx : zbu x = []) (hy : zbu y = []) : Rds 4 ([some o] ++ (x ++ (its ++ (y ++ [some c])))) (Q ++ ns) (ht + 1) := by
 intro E i d htm hoc hne hd
 have et : zbu ([some o] ++ (x ++ (its ++ (y ++ [some c])))) = o :: (zbu its ++ [c]) := by
  rw [zbt, zbt, zbt, zbt, hx, hy]; rfl
 rw [et] at hoc hne ⊢
 have k0 := hoc.tk
 have o1 := hoc.next
 have k1 := o1.right.tk
 have h0 := (q E (i + 1) (d + 1) htm o1.left (by rw [k1.2.1]; omega) (by omega)).s0
 have hb : bgn E i = true := by
  unfold bgn bgK
  rw [k0.2.1]
  rcases ho with z | z | z | z | z <;> rw [z] <;> rfl
 refine Rz.of3 ?_ (by omega)
 have := S3.wit hb (by rw [k0.2.1]; omega) (hp E i k0.2.2.1 k0.2.2.2.2.1 h0.b) (by omega) h0 k1.2.1 hc
 rw [List.length_cons, List.length_append, List.length_singleton]
 rw [show i + ((zbu its).length + 1 + 1) = i + 1 + (zbu its).length + 1 from by omega]
 exact this
theorem zaW {x : Ent} {Q : List Nd} {ht k : Nat} (q : Rds x.1 x.2 Q ht) (hk : k <= 3) : Rds k (zat k x) Q (ht + 1) := by
 unfold zat
 by_cases hl : x.1 < k
 ·rw [if_pos hl]
  have := zeF (ns := []) (q.low (Nat.zero_le _)) (o := ⟨16, 0, 0, 0, ⟨#[]⟩, 0, 0, 0, 0⟩) (c := ⟨17, 0, 0, 0, ⟨#[]⟩, 0, 0, 0, 0⟩) (.inl rfl) (fun E i h1 _ _ => by
   unfold za2 zbg
   rw [h1]
   rfl) (.inl rfl) [] [] rfl rfl
  rw [List.append_nil] at this
  exact this.low (by omega)
 ·rw [if_neg hl]
  exact (q.low (by omega)).high (by omega)
theorem zdL {its : List It} {Q : List Nd} {ht : Nat} {t : Tk} {n : Nd} (q : Rds 3 its Q ht) (hk : t.kd ≠ 6) (hp : ∀ (E : PE) (i : Nat), kdA E i = t.kd -> (tkA E i).nn = t.nn -> zdE E i = .inl (n, 1)) : Rds 3 (its ++ [some t]) (Q ++ [n]) ht := by
 intro E i d htm hoc hne hd
 have et : zbu (its ++ [some t]) = zbu its ++ [t] := by rw [zbt]; rfl
 rw [et] at hoc hne ⊢
 have k1 := hoc.right.tk
 have h0 := (q E i d htm hoc.left (by rw [k1.2.1]; exact hk) hd).s3 (by omega)
 rw [List.length_append, List.length_singleton, <- Nat.add_assoc]
 exact Rz.of3 (h0.suf (hp E _ k1.2.1 k1.2.2.2.1)) (by omega)
theorem ziB {its : List It} {Q : List Nd} {ht : Nat} {t : Tk} {n : Nd} (q : Rds 3 its Q ht) (hp : ∀ (E : PE) (i : Nat), E.tm = T.tmB -> kdA E i = 27 -> kdA E (i + 1) = t.kd -> (tkA E (i + 1)).tx = t.tx -> (tkA E (i + 1)).nn = t.nn -> zdE E i = .inl (n, 2)) : Rds 3 (its ++ [none, sgI 27, none, some t]) (Q ++ [n]) ht := by
 intro E i d htm hoc hne hd
 have et : zbu (its ++ [none, sgI 27, none, some t]) = zbu its ++ [⟨27, 0, 0, 0, ⟨#[]⟩, 0, 0, 0, 0⟩, t] := by rw [zbt]; rfl
 rw [et] at hoc hne ⊢
 have k1 := hoc.right.tk
 have k2 := hoc.right.next.tk
 have h0 := (q E i d htm hoc.left (by rw [k1.2.1]; decide) hd).s3 (by omega)
 rw [List.length_append, List.length_cons, List.length_singleton, <- Nat.add_assoc]
 exact Rz.of3 (h0.suf (hp E _ htm k1.2.1 k2.2.1 k2.2.2.2.2.1 k2.2.2.2.1)) (by omega)
theorem zlr {its : List It} {Q : List Nd} {ht : Nat} {k : Int} (q : Rds 2 its Q ht) (hk : k = 8 ∨ k = 9) : Rds 2 ([sgI k] ++ its) (Q ++ [nd0 (if k = 8 then 12 else 13)]) (ht + 1) := by
 intro E i d htm hoc hne hd
 have et : zbu ([sgI k] ++ its) = ⟨k, 0, 0, 0, ⟨#[]⟩, 0, 0, 0, 0⟩ :: zbu its := by rw [zbt]; rfl
 rw [et] at hoc hne ⊢
 have k1 := hoc.tk
 rw [List.length_cons, show i + ((zbu its).length + 1) = i + 1 + (zbu its).length from by omega] at hne ⊢
 have h0 := (q E (i + 1) (d + 1) htm hoc.next hne (by omega)).s2 (by omega)
 have hk2 : kdA E i = k := k1.2.1
 have := S2.pre (by rw [hk2]; exact hk) (by omega) h0
 rw [hk2] at this
 exact this
theorem zqt {a b : List It} {Q R : List Nd} {ht : Nat} (q : Rds 1 a Q ht) (r : Rds 2 b R ht) : Rds 1 (a ++ ([none] ++ b)) (Q ++ R ++ [nd0 7]) ht := by
 intro E i d htm hoc hne hd
 have et : zbu (a ++ ([none] ++ b)) = zbu a ++ zbu b := by rw [zbt, zbt]; rfl
 rw [et] at hoc hne ⊢
 rw [List.length_append, <- Nat.add_assoc] at hne ⊢
 have h2 := (r E _ d htm hoc.right hne hd).s2 (by omega)
 have h1 := (q E i d htm hoc.left (kd_ne h2.b) hd).s1 (by omega)
 exact h1.seq h2
theorem zqu {a b : List It} {Q R : List Nd} {ht : Nat} (q : Rds 0 a Q ht) (r : Rds 1 b R ht) : Rds 0 (a ++ ([none, sgI 7, none] ++ b)) (Q ++ R ++ [nd0 8]) ht := by
 intro E i d htm hoc hne hd
 have et : zbu (a ++ ([none, sgI 7, none] ++ b)) = zbu a ++ (⟨7, 0, 0, 0, ⟨#[]⟩, 0, 0, 0, 0⟩ :: zbu b) := by rw [zbt, zbt]; rfl
 rw [et] at hoc hne ⊢
 rw [List.length_append, List.length_cons, show i + ((zbu a).length + ((zbu b).length + 1)) = i + (zbu a).length + 1 + (zbu b).length from by omega] at hne ⊢
 have k1 := hoc.right.tk
 have h2 := (r E _ d htm hoc.right.next hne hd).s1 (by omega)
 have h1 := (q E i d htm hoc.left (by rw [k1.2.1]; decide) hd).s0
 exact h1.alt k1.2.1 h2
theorem zcU {t : Tk} {n : Nd} (hk : bgK t.kd = true ∨ t.kd = 1) (hk2 : t.kd ≠ 8 /\ t.kd ≠ 9) (hp : ∀ (E : PE) (i : Nat), (tkA E i).kd = t.kd -> (tkA E i).tx = t.tx -> (tkA E i).s0 = t.s0 -> (tkA E i).s1 = t.s1 -> (tkA E i).s2 = t.s2 -> (tkA E i).s3 = t.s3 -> za2 E i = .inl ([n], 1)) (ht : Nat) : Rds 4 [some t] [n] ht := by
 intro E i d htm hoc hne hd
 have et : zbu [some t] = [t] := rfl
 rw [et] at hoc hne ⊢
 have k1 := hoc.tk
 have hb : bgn E i = true := by
  unfold bgn
  rw [k1.2.1]
  rcases hk with z | z
  ·rw [z]; rfl
  ·rw [z]
   have : (kdA E (i + 1) == 6) = false := bF hne
   rw [this]
   rfl
 exact Rz.of3 (S3.leaf hb (by rw [k1.2.1]; omega) (hp E i k1.2.2.1 k1.2.2.2.2.1 k1.2.2.2.2.2.1 k1.2.2.2.2.2.2.1 k1.2.2.2.2.2.2.2.1 k1.2.2.2.2.2.2.2.2)) (by omega)
theorem zls (ht : Nat) : Rds 4 [sgI 19, sgI 20] [nd0 17] ht := by
 intro E i d htm hoc hne hd
 have et : zbu [sgI 19, sgI 20] = [⟨19, 0, 0, 0, ⟨#[]⟩, 0, 0, 0, 0⟩, ⟨20, 0, 0, 0, ⟨#[]⟩, 0, 0, 0, 0⟩] := rfl
 rw [et] at hoc hne ⊢
 have k1 := hoc.tk
 have k2 := hoc.next.tk
 have hk : kdA E i = 19 := k1.2.1
 have hk3 : (tkA E i).kd = 19 := k1.2.2.1
 have hk4 : kdA E (i + 1) = 20 := k2.2.1
 refine Rz.of3 (S3.leaf (by unfold bgn bgK; rw [hk]; rfl) (by omega) ?_) (by omega)
 unfold za2 zbg
 rw [hk3, hk4]
 rfl
theorem zlt {n : Nd} (h : n.op = 1) (a b : Ent) : zaj n a b = [sgI 29] := by
 unfold zaj
 rw [if_pos h]
theorem zlu {n : Nd} (h : n.op = 2) (a b : Ent) : zaj n a b = [sgI 30] := by
 unfold zaj
 rw [if_neg (by omega), if_pos h]
theorem zlv {n : Nd} (h : n.op = 3) (a b : Ent) : zaj n a b = [sgI 18] := by
 unfold zaj
 rw [if_neg (by omega), if_neg (by omega), if_pos h]
theorem zlw {n : Nd} (h : n.op = 4) (a b : Ent) : zaj n a b = [txI 2 n.tx] := by
 unfold zaj
 rw [if_neg (by omega), if_neg (by omega), if_neg (by omega), if_pos h]
theorem zlx {n : Nd} (h : n.op = 5) (a b : Ent) : zaj n a b = [some ⟨3, 0, 0, 0, ⟨#[]⟩, n.s0, n.s1, n.s2, n.s3⟩] := by
 unfold zaj
 rw [if_neg (by omega), if_neg (by omega), if_neg (by omega), if_neg (by omega), if_pos h]
theorem zly {n : Nd} (h : n.op = 6) (a b : Ent) : zaj n a b = [txI 1 n.tx] := by
 unfold zaj
 rw [if_neg (by omega), if_neg (by omega), if_neg (by omega), if_neg (by omega), if_neg (by omega), if_pos h]
theorem zlz {n : Nd} (h : n.op = 7) (a b : Ent) : zaj n a b = zat 1 a ++ ([none] ++ zat 2 b) := by
 unfold zaj
 rw [if_neg (by omega), if_neg (by omega), if_neg (by omega), if_neg (by omega), if_neg (by omega), if_neg (by omega), if_pos h]
theorem zlA {n : Nd} (h : n.op = 8) (a b : Ent) : zaj n a b = zat 0 a ++ ([none, sgI 7, none] ++ zat 1 b) := by
 unfold zaj
 rw [if_neg (by omega), if_neg (by omega), if_neg (by omega), if_neg (by omega), if_neg (by omega), if_neg (by omega), if_neg (by omega), if_pos h]
theorem zlB {n : Nd} (h : n.op = 9) (a b : Ent) : zaj n a b = zat 3 a ++ [sgI 11] := by
 unfold zaj
 rw [if_neg (by omega), if_neg (by omega), if_neg (by omega), if_neg (by omega), if_neg (by omega), if_neg (by omega), if_neg (by omega), if_neg (by omega), if_pos h]
theorem zhy {n : Nd} (h : n.op = 10) (a b : Ent) : zaj n a b = zat 3 a ++ [sgI 12] := by
 unfold zaj
 rw [if_neg (by omega), if_neg (by omega), if_neg (by omega), if_neg (by omega), if_neg (by omega), if_neg (by omega), if_neg (by omega), if_neg (by omega), if_neg (by omega), if_pos h]
theorem zhz {n : Nd} (h : n.op = 11) (a b : Ent) : zaj n a b = zat 3 a ++ [sgI 10] := by
 unfold zaj
 rw [if_neg (by omega), if_neg (by omega), if_neg (by omega), if_neg (by omega), if_neg (by omega), if_neg (by omega), if_neg (by omega), if_neg (by omega), if_neg (by omega), if_neg (by omega), if_pos h]
theorem zhA {n : Nd} (h : n.op = 12) (a b : Ent) : zaj n a b = [sgI 8] ++ zat 2 a := by
 unfold zaj
 rw [if_neg (by omega), if_neg (by omega), if_neg (by omega), if_neg (by omega), if_neg (by omega), if_neg (by omega), if_neg (by omega), if_neg (by omega), if_neg (by omega), if_neg (by omega), if_neg (by omega), if_pos h]
theorem zhB {n : Nd} (h : n.op = 13) (a b : Ent) : zaj n a b = [sgI 9] ++ zat 2 a := by
 unfold zaj
 rw [if_neg (by omega), if_neg (by omega), if_neg (by omega), if_neg (by omega), if_neg (by omega), if_neg (by omega), if_neg (by omega), if_neg (by omega), if_neg (by omega), if_neg (by omega), if_neg (by omega), if_neg (by omega), if_pos h]
theorem zhC {n : Nd} (h : n.op = 14) (a b : Ent) : zaj n a b = zat 3 a ++ [nuI 13 n.nn] := by
 unfold zaj
 rw [if_neg (by omega), if_neg (by omega), if_neg (by omega), if_neg (by omega), if_neg (by omega), if_neg (by omega), if_neg (by omega), if_neg (by omega), if_neg (by omega), if_neg (by omega), if_neg (by omega), if_neg (by omega), if_neg (by omega), if_pos h]
theorem zhD {n : Nd} (h : n.op = 15) (a b : Ent) : zaj n a b = zat 3 a ++ [nuI 14 n.nn] := by
 unfold zaj
 rw [if_neg (by omega), if_neg (by omega), if_neg (by omega), if_neg (by omega), if_neg (by omega), if_neg (by omega), if_neg (by omega), if_neg (by omega), if_neg (by omega), if_neg (by omega), if_neg (by omega), if_neg (by omega), if_neg (by omega), if_neg (by omega), if_pos h]
theorem zhE {n : Nd} (h : n.op = 16) (a b : Ent) : zaj n a b = zat 3 a ++ [nuI 15 n.nn] := by
 unfold zaj
 rw [if_neg (by omega), if_neg (by omega), if_neg (by omega), if_neg (by omega), if_neg (by omega), if_neg (by omega), if_neg (by omega), if_neg (by omega), if_neg (by omega), if_neg (by omega), if_neg (by omega), if_neg (by omega), if_neg (by omega), if_neg (by omega), if_neg (by omega), if_pos h]
theorem zhF {n : Nd} (h : n.op = 17) (a b : Ent) : zaj n a b = [sgI 19, sgI 20] := by
 unfold zaj
 rw [if_neg (by omega), if_neg (by omega), if_neg (by omega), if_neg (by omega), if_neg (by omega), if_neg (by omega), if_neg (by omega), if_neg (by omega), if_neg (by omega), if_neg (by omega), if_neg (by omega), if_neg (by omega), if_neg (by omega), if_neg (by omega), if_neg (by omega), if_neg (by omega), if_pos h]
theorem zhG {n : Nd} (h : n.op = 18) (a b : Ent) : zaj n a b = [sgI 19] ++ (zat 0 a ++ [sgI 20]) := by
 unfold zaj
 rw [if_neg (by omega), if_neg (by omega), if_neg (by omega), if_neg (by omega), if_neg (by omega), if_neg (by omega), if_neg (by omega), if_neg (by omega), if_neg (by omega), if_neg (by omega), if_neg (by omega), if_neg (by omega), if_neg (by omega), if_neg (by omega), if_neg (by omega), if_neg (by omega), if_neg (by omega), if_pos h]
theorem zhH {n : Nd} (h : n.op = 19) (a b : Ent) : zaj n a b = [txI 21 n.tx, none] ++ (zat 0 a ++ [none, sgI 22]) := by
 unfold zaj
 rw [if_neg (by omega), if_neg (by omega), if_neg (by omega), if_neg (by omega), if_neg (by omega), if_neg (by omega), if_neg (by omega), if_neg (by omega), if_neg (by omega), if_neg (by omega), if_neg (by omega), if_neg (by omega), if_neg (by omega), if_neg (by omega), if_neg (by omega), if_neg (by omega), if_neg (by omega), if_neg (by omega), if_pos h]
theorem zhI {n : Nd} (h : n.op = 20) (a b : Ent) : zaj n a b = [sgI 23, none] ++ (zat 0 a ++ [none, sgI 24]) := by
 unfold zaj
 rw [if_neg (by omega), if_neg (by omega), if_neg (by omega), if_neg (by omega), if_neg (by omega), if_neg (by omega), if_neg (by omega), if_neg (by omega), if_neg (by omega), if_neg (by omega), if_neg (by omega), if_neg (by omega), if_neg (by omega), if_neg (by omega), if_neg (by omega), if_neg (by omega), if_neg (by omega), if_neg (by omega), if_neg (by omega), if_pos h]
theorem zhJ {n : Nd} (h : n.op = 21) (a b : Ent) : zaj n a b = [sgI 25, none] ++ (zat 0 a ++ [none, sgI 26]) := by
 unfold zaj
 rw [if_neg (by omega), if_neg (by omega), if_neg (by omega), if_neg (by omega), if_neg (by omega), if_neg (by omega), if_neg (by omega), if_neg (by omega), if_neg (by omega), if_neg (by omega), if_neg (by omega), if_neg (by omega), if_neg (by omega), if_neg (by omega), if_neg (by omega), if_neg (by omega), if_neg (by omega), if_neg (by omega), if_neg (by omega), if_neg (by omega), if_pos h]
theorem zhK {n : Nd} (h : n.op = 22) (a b : Ent) : zaj n a b = zat 3 a ++ [none, sgI 27, none, txI 2 n.tx] := by
 unfold zaj
 rw [if_neg (by omega), if_neg (by omega), if_neg (by omega), if_neg (by omega), if_neg (by omega), if_neg (by omega), if_neg (by omega), if_neg (by omega), if_neg (by omega), if_neg (by omega), if_neg (by omega), if_neg (by omega), if_neg (by omega), if_neg (by omega), if_neg (by omega), if_neg (by omega), if_neg (by omega), if_neg (by omega), if_neg (by omega), if_neg (by omega), if_neg (by omega), if_pos h]
theorem zhL {n : Nd} (h : n.op = 23) (a b : Ent) : zaj n a b = zat 3 a ++ [none, sgI 27, none, nuI 4 n.nn] := by
 unfold zaj
 rw [if_neg (by omega), if_neg (by omega), if_neg (by omega), if_neg (by omega), if_neg (by omega), if_neg (by omega), if_neg (by omega), if_neg (by omega), if_neg (by omega), if_neg (by omega), if_neg (by omega), if_neg (by omega), if_neg (by omega), if_neg (by omega), if_neg (by omega), if_neg (by omega), if_neg (by omega), if_neg (by omega), if_neg (by omega), if_neg (by omega), if_neg (by omega), if_neg (by omega)]
theorem zd1 {n : Nd} (h : T.alE n = 0) : 0 <= T.ar n.op /\ T.txF n.op n.tx = true /\ T.nuF n.op n.nn = true /\ T.seF n.op n.s0 n.s1 n.s2 n.s3 = true := by
 unfold T.alE at h
 by_cases h1 : T.ar n.op < 0
 ·rw [if_pos h1] at h; cases h
 ·rw [if_neg h1] at h
  by_cases h2 : T.fdF n = true
  ·unfold T.fdF at h2
   simp only [Bool.and_eq_true] at h2
   exact ⟨by omega, h2.1.1, h2.1.2, h2.2⟩
  ·rw [if_neg h2] at h; cases h
theorem op_rng {n : Nd} (h : T.alE n = 0) : 1 <= n.op /\ n.op <= 23 := by
 have := (zd1 h).1
 unfold T.ar at this
 split at this
 ·omega
 ·omega
theorem zqv {n : Nd} (h : T.alE n = 0) (ho : n.op ≠ 5) : n.s0 = 0 /\ n.s1 = 0 /\ n.s2 = 0 /\ n.s3 = 0 := by
 have := (zd1 h).2.2.2
 unfold T.seF at this
 rw [if_neg ho] at this
 exact of_decide_eq_true this
theorem zqw {n : Nd} (h : T.alE n = 0) (ho : ¬ (n.op = 14 ∨ n.op = 15 ∨ n.op = 16 ∨ n.op = 23)) : n.nn = 0 := by
 have := (zd1 h).2.2.1
 unfold T.nuF at this
 rw [if_neg ho] at this
 exact of_decide_eq_true this
theorem zlC {n : Nd} (h : T.alE n = 0) (h4 : n.op ≠ 4) (h6 : n.op ≠ 6) (h19 : n.op ≠ 19) (h22 : n.op ≠ 22) : n.tx = ⟨#[]⟩ := by
 have := (zd1 h).2.1
 unfold T.txF at this
 rw [if_neg h4, if_neg h6, if_neg h19, if_neg h22] at this
 have := of_decide_eq_true this
 exact zgC (by omega)
theorem ziC {n : Nd} (h : T.alE n = 0) (ho : n.op ≠ 4 /\ n.op ≠ 5 /\ n.op ≠ 6 /\ n.op ≠ 14 /\ n.op ≠ 15 /\ n.op ≠ 16 /\ n.op ≠ 19 /\ n.op ≠ 22 /\ n.op ≠ 23) : n = nd0 n.op := by
 obtain ⟨a, b, c, d⟩ := zqv h (by omega)
 have e := zqw h (by omega)
 have f := zlC h (by omega) (by omega) (by omega) (by omega)
 obtain ⟨op, nn, tx, s0, s1, s2, s3⟩ := n
 dsimp only at a b c d e f ⊢
 subst a b c d e f
 rfl
theorem nd_t {n : Nd} (h : T.alE n = 0) (ho : n.op = 4 ∨ n.op = 6 ∨ n.op = 19 ∨ n.op = 22) : n = ⟨n.op, 0, n.tx, 0, 0, 0, 0⟩ := by
 obtain ⟨a, b, c, d⟩ := zqv h (by omega)
 have e := zqw h (by omega)
 obtain ⟨op, nn, tx, s0, s1, s2, s3⟩ := n
 dsimp only at a b c d e ⊢
 subst a b c d e
 rfl
theorem nd_s {n : Nd} (h : T.alE n = 0) (ho : n.op = 5) : n = ⟨n.op, 0, ⟨#[]⟩, n.s0, n.s1, n.s2, n.s3⟩ := by
 have e := zqw h (by omega)
 have f := zlC h (by omega) (by omega) (by omega) (by omega)
 obtain ⟨op, nn, tx, s0, s1, s2, s3⟩ := n
 dsimp only at e f ⊢
 subst e f
 rfl
theorem zjC {n : Nd} (h : T.alE n = 0) (ho : n.op = 14 ∨ n.op = 15 ∨ n.op = 16 ∨ n.op = 23) : n = ⟨n.op, n.nn, ⟨#[]⟩, 0, 0, 0, 0⟩ /\ 0 <= n.nn /\ n.nn <= 50 := by
 obtain ⟨a, b, c, d⟩ := zqv h (by omega)
 have f := zlC h (by omega) (by omega) (by omega) (by omega)
 have g := (zd1 h).2.2.1
 unfold T.nuF at g
 rw [if_pos ho] at g
 have g := of_decide_eq_true g
 refine ⟨?_, g⟩
 clear g
 obtain ⟨op, nn, tx, s0, s1, s2, s3⟩ := n
 dsimp only at a b c d f ⊢
 subst a b c d f
 rfl
theorem zdy {x : Ent} {Q : List Nd} {ht k H : Nat} (q : Rds x.1 x.2 Q ht) (hk : k <= 3) (h : ht + 1 <= H ∨ (k <= x.1 /\ ht <= H)) : Rds k (zat k x) Q H := by
 rcases h with h | ⟨h1, h2⟩
 ·exact (zaW q hk).high h
 ·unfold zat
  rw [if_neg (by omega)]
  exact (q.low h1).high h2
theorem rds_n1 {n : Nd} (h : T.alE n = 0) (ho : n.op = 1) (a b : Ent) (ht : Nat) : Rds (hld n.op) (zaj n a b) [n] ht := by
 have hz := ziC h (by omega)
 rw [zlt ho, ho]
 exact zcU (t := ⟨29, 0, 0, 0, ⟨#[]⟩, 0, 0, 0, 0⟩) (by dsimp only; decide) (by dsimp only; decide) (fun E i h1 h2 h3 h4 h5 h6 => by
  unfold za2 zbg
  rw [h1]
  rw [hz, ho]; rfl) ht
theorem rds_n2 {n : Nd} (h : T.alE n = 0) (ho : n.op = 2) (a b : Ent) (ht : Nat) : Rds (hld n.op) (zaj n a b) [n] ht := by
 have hz := ziC h (by omega)
 rw [zlu ho, ho]
 exact zcU (t := ⟨30, 0, 0, 0, ⟨#[]⟩, 0, 0, 0, 0⟩) (by dsimp only; decide) (by dsimp only; decide) (fun E i h1 h2 h3 h4 h5 h6 => by
  unfold za2 zbg
  rw [h1]
  rw [hz, ho]; rfl) ht
theorem rds_n3 {n : Nd} (h : T.alE n = 0) (ho : n.op = 3) (a b : Ent) (ht : Nat) : Rds (hld n.op) (zaj n a b) [n] ht := by
 have hz := ziC h (by omega)
 rw [zlv ho, ho]
 exact zcU (t := ⟨18, 0, 0, 0, ⟨#[]⟩, 0, 0, 0, 0⟩) (by dsimp only; decide) (by dsimp only; decide) (fun E i h1 h2 h3 h4 h5 h6 => by
  unfold za2 zbg
  rw [h1]
  rw [hz, ho]; rfl) ht
theorem rds_n4 {n : Nd} (h : T.alE n = 0) (ho : n.op = 4) (a b : Ent) (ht : Nat) : Rds (hld n.op) (zaj n a b) [n] ht := by
 have hz := nd_t h (by omega)
 rw [zlw ho, ho]
 have hs : 1 <= n.tx.size := by
  have := (zd1 h).2.1
  unfold T.txF at this
  rw [if_pos ho] at this
  exact (of_decide_eq_true this).1
 exact zcU (t := ⟨2, 0, 0, 0, n.tx, 0, 0, 0, 0⟩) (by dsimp only; decide) (by dsimp only; decide) (fun E i h1 h2 h3 h4 h5 h6 => by
  unfold za2 zbg
  rw [h1, h2, if_pos rfl, if_neg (show ¬ n.tx.size = 0 from by omega)]
  rw [hz, ho]) ht
theorem rds_n5 {n : Nd} (h : T.alE n = 0) (ho : n.op = 5) (a b : Ent) (ht : Nat) : Rds (hld n.op) (zaj n a b) [n] ht := by
 have hz := nd_s h (by omega)
 rw [zlx ho, ho]
 exact zcU (t := ⟨3, 0, 0, 0, ⟨#[]⟩, n.s0, n.s1, n.s2, n.s3⟩) (by dsimp only; decide) (by dsimp only; decide) (fun E i h1 h2 h3 h4 h5 h6 => by
  unfold za2 zbg
  rw [h1, h3, h4, h5, h6]
  dsimp only
  rw [if_neg (by decide), if_pos (.inl rfl), hz, ho]) ht
theorem rds_n6 {n : Nd} (h : T.alE n = 0) (ho : n.op = 6) (a b : Ent) (ht : Nat) : Rds (hld n.op) (zaj n a b) [n] ht := by
 have hz := nd_t h (by omega)
 rw [zly ho, ho]
 exact zcU (t := ⟨1, 0, 0, 0, n.tx, 0, 0, 0, 0⟩) (by dsimp only; decide) (by dsimp only; decide) (fun E i h1 h2 h3 h4 h5 h6 => by
  unfold za2 zbg
  rw [h1, h2]
  dsimp only
  rw [if_neg (by decide), if_neg (by decide), if_neg (by decide), if_neg (by decide), if_neg (by decide), if_neg (by decide), if_pos rfl, hz, ho]) ht
theorem zqx {n : Nd} (h : T.alE n = 0) (ho : n.op = 17) (a b : Ent) (ht : Nat) : Rds (hld n.op) (zaj n a b) [n] ht := by
 have hz := ziC h (by omega)
 rw [zhF ho, ho, hz, ho]
 exact zls ht
theorem rds_n9 {n : Nd} (h : T.alE n = 0) (ho : n.op = 9) {a : Ent} (b : Ent) {Q : List Nd} {ht H : Nat} (q : Rds a.1 a.2 Q ht) (hH : ht + 2 <= H) : Rds (hld n.op) (zaj n a b) (Q ++ [n]) H := by
 have hz := ziC h (by omega)
 rw [zlB ho, ho, hz, ho]
 exact (zdL (zaW q (by omega)) (t := ⟨11, 0, 0, 0, ⟨#[]⟩, 0, 0, 0, 0⟩) (by decide) (fun E i h1 _ => by
  unfold zdE zgT
  rw [h1]
  rfl)).high (by omega)
theorem zqy {n : Nd} (h : T.alE n = 0) (ho : n.op = 10) {a : Ent} (b : Ent) {Q : List Nd} {ht H : Nat} (q : Rds a.1 a.2 Q ht) (hH : ht + 2 <= H) : Rds (hld n.op) (zaj n a b) (Q ++ [n]) H := by
 have hz := ziC h (by omega)
 rw [zhy ho, ho, hz, ho]
 exact (zdL (zaW q (by omega)) (t := ⟨12, 0, 0, 0, ⟨#[]⟩, 0, 0, 0, 0⟩) (by decide) (fun E i h1 _ => by
  unfold zdE zgT
  rw [h1]
  rfl)).high (by omega)
theorem zqz {n : Nd} (h : T.alE n = 0) (ho : n.op = 11) {a : Ent} (b : Ent) {Q : List Nd} {ht H : Nat} (q : Rds a.1 a.2 Q ht) (hH : ht + 2 <= H) : Rds (hld n.op) (zaj n a b) (Q ++ [n]) H := by
 have hz := ziC h (by omega)
 rw [zhz ho, ho, hz, ho]
 exact (zdL (zaW q (by omega)) (t := ⟨10, 0, 0, 0, ⟨#[]⟩, 0, 0, 0, 0⟩) (by decide) (fun E i h1 _ => by
  unfold zdE zgT
  rw [h1]
  rfl)).high (by omega)
theorem zqA {n : Nd} (h : T.alE n = 0) (ho : n.op = 14) {a : Ent} (b : Ent) {Q : List Nd} {ht H : Nat} (q : Rds a.1 a.2 Q ht) (hH : ht + 2 <= H) : Rds (hld n.op) (zaj n a b) (Q ++ [n]) H := by
 have hz := zjC h (by omega)
 rw [zhC ho, ho]
 exact (zdL (zaW q (by omega)) (t := ⟨13, n.nn, 0, 0, ⟨#[]⟩, 0, 0, 0, 0⟩) (by dsimp only; decide) (fun E i h1 h2 => by
  unfold zdE zgT
  rw [h1, h2, hz.1, ho]
  rfl)).high (by omega)
theorem zqB {n : Nd} (h : T.alE n = 0) (ho : n.op = 15) {a : Ent} (b : Ent) {Q : List Nd} {ht H : Nat} (q : Rds a.1 a.2 Q ht) (hH : ht + 2 <= H) : Rds (hld n.op) (zaj n a b) (Q ++ [n]) H := by
 have hz := zjC h (by omega)
 rw [zhD ho, ho]
 exact (zdL (zaW q (by omega)) (t := ⟨14, n.nn, 0, 0, ⟨#[]⟩, 0, 0, 0, 0⟩) (by dsimp only; decide) (fun E i h1 h2 => by
  unfold zdE zgT
  rw [h1, h2, hz.1, ho]
  rfl)).high (by omega)
theorem zqC {n : Nd} (h : T.alE n = 0) (ho : n.op = 16) {a : Ent} (b : Ent) {Q : List Nd} {ht H : Nat} (q : Rds a.1 a.2 Q ht) (hH : ht + 2 <= H) : Rds (hld n.op) (zaj n a b) (Q ++ [n]) H := by
 have hz := zjC h (by omega)
 rw [zhE ho, ho]
 exact (zdL (zaW q (by omega)) (t := ⟨15, n.nn, 0, 0, ⟨#[]⟩, 0, 0, 0, 0⟩) (by dsimp only; decide) (fun E i h1 h2 => by
  unfold zdE zgT
  rw [h1, h2, hz.1, ho]
  rfl)).high (by omega)
theorem zqD {n : Nd} (h : T.alE n = 0) (ho : n.op = 22) {a : Ent} (b : Ent) {Q : List Nd} {ht H : Nat} (q : Rds a.1 a.2 Q ht) (hH : ht + 2 <= H) : Rds (hld n.op) (zaj n a b) (Q ++ [n]) H := by
 have hz := nd_t h (by omega)
 have hs : T.tmB n.tx = true := by
  have := (zd1 h).2.1
  unfold T.txF at this
  rwa [if_neg (by omega), if_neg (by omega), if_neg (by omega), if_pos ho] at this
 rw [zhK ho, ho]
 exact (ziB (zaW q (by omega)) (t := ⟨2, 0, 0, 0, n.tx, 0, 0, 0, 0⟩) (fun E i h0 h1 h2 h3 _ => by
  unfold zdE zgT
  rw [h0, h1, h2, h3]
  dsimp only
  rw [if_neg (by decide), if_neg (by decide), if_neg (by decide), if_neg (by decide), if_neg (by decide), if_neg (by decide), if_pos rfl, if_pos rfl, if_pos hs, hz, ho])).high (by omega)
theorem zqE {n : Nd} (h : T.alE n = 0) (ho : n.op = 23) {a : Ent} (b : Ent) {Q : List Nd} {ht H : Nat} (q : Rds a.1 a.2 Q ht) (hH : ht + 2 <= H) : Rds (hld n.op) (zaj n a b) (Q ++ [n]) H := by
 have hz := zjC h (by omega)
 rw [zhL ho, ho]
 exact (ziB (zaW q (by omega)) (t := ⟨4, n.nn, 0, 0, ⟨#[]⟩, 0, 0, 0, 0⟩) (fun E i _ h1 h2 _ h3 => by
  unfold zdE zgT
  rw [h1, h2, h3]
  dsimp only
  rw [if_neg (by decide), if_neg (by decide), if_neg (by decide), if_neg (by decide), if_neg (by decide), if_neg (by decide), if_pos rfl, if_neg (by decide), if_pos rfl, if_neg (by have := hz.2; omega), hz.1, ho])).high (by omega)
theorem zqF {n : Nd} (h : T.alE n = 0) (ho : n.op = 12) {a : Ent} (b : Ent) {Q : List Nd} {ht H : Nat} (q : Rds a.1 a.2 Q ht) (hH : ht + 2 <= H) : Rds (hld n.op) (zaj n a b) (Q ++ [n]) H := by
 have hz := ziC h (by omega)
 rw [zhA ho, ho, hz, ho]
 exact (zlr (zaW q (by omega)) (k := 8) (by decide)).high (by omega)
theorem zqG {n : Nd} (h : T.alE n = 0) (ho : n.op = 13) {a : Ent} (b : Ent) {Q : List Nd} {ht H : Nat} (q : Rds a.1 a.2 Q ht) (hH : ht + 2 <= H) : Rds (hld n.op) (zaj n a b) (Q ++ [n]) H := by
 have hz := ziC h (by omega)
 rw [zhB ho, ho, hz, ho]
 exact (zlr (zaW q (by omega)) (k := 9) (by decide)).high (by omega)
theorem zqH {n : Nd} (h : T.alE n = 0) (ho : n.op = 18) {a : Ent} (b : Ent) {Q : List Nd} {ht H : Nat} (q : Rds a.1 a.2 Q ht) (hH : ht + 2 <= H) : Rds (hld n.op) (zaj n a b) (Q ++ [n]) H := by
 have hz := ziC h (by omega)
 rw [zhG ho, ho, hz, ho]
 exact (zeF (ns := [nd0 18]) (zaW q (by omega)) (o := ⟨19, 0, 0, 0, ⟨#[]⟩, 0, 0, 0, 0⟩) (c := ⟨20, 0, 0, 0, ⟨#[]⟩, 0, 0, 0, 0⟩) (by decide) (fun E i h1 _ hb => by
  have hne : kdA E (i + 1) ≠ 20 := by have := zlp hb; omega
  unfold za2 zbg
  rw [h1]
  dsimp only
  rw [if_neg (by decide), if_neg (by decide), if_neg (by decide), if_neg (by decide), if_neg (by decide), if_neg (by decide), if_neg (by decide), if_neg (by decide), if_pos rfl, if_neg hne]) (by decide) [] [] rfl rfl).high (by omega)
theorem zqI {n : Nd} (h : T.alE n = 0) (ho : n.op = 20) {a : Ent} (b : Ent) {Q : List Nd} {ht H : Nat} (q : Rds a.1 a.2 Q ht) (hH : ht + 2 <= H) : Rds (hld n.op) (zaj n a b) (Q ++ [n]) H := by
 have hz := ziC h (by omega)
 rw [zhI ho, ho, hz, ho]
 exact (zeF (ns := [nd0 20]) (zaW q (by omega)) (o := ⟨23, 0, 0, 0, ⟨#[]⟩, 0, 0, 0, 0⟩) (c := ⟨24, 0, 0, 0, ⟨#[]⟩, 0, 0, 0, 0⟩) (by decide) (fun E i h1 _ _ => by
  unfold za2 zbg
  rw [h1]
  rfl) (by decide) [none] [none] rfl rfl).high (by omega)
theorem zqJ {n : Nd} (h : T.alE n = 0) (ho : n.op = 21) {a : Ent} (b : Ent) {Q : List Nd} {ht H : Nat} (q : Rds a.1 a.2 Q ht) (hH : ht + 2 <= H) : Rds (hld n.op) (zaj n a b) (Q ++ [n]) H := by
 have hz := ziC h (by omega)
 rw [zhJ ho, ho, hz, ho]
 exact (zeF (ns := [nd0 21]) (zaW q (by omega)) (o := ⟨25, 0, 0, 0, ⟨#[]⟩, 0, 0, 0, 0⟩) (c := ⟨26, 0, 0, 0, ⟨#[]⟩, 0, 0, 0, 0⟩) (by decide) (fun E i h1 _ _ => by
  unfold za2 zbg
  rw [h1]
  rfl) (by decide) [none] [none] rfl rfl).high (by omega)
theorem zqK {n : Nd} (h : T.alE n = 0) (ho : n.op = 19) {a : Ent} (b : Ent) {Q : List Nd} {ht H : Nat} (q : Rds a.1 a.2 Q ht) (hH : ht + 2 <= H) : Rds (hld n.op) (zaj n a b) (Q ++ [n]) H := by
 have hz := nd_t h (by omega)
 rw [zhH ho, ho]
 exact (zeF (ns := [n]) (zaW q (by omega)) (o := ⟨21, 0, 0, 0, n.tx, 0, 0, 0, 0⟩) (c := ⟨22, 0, 0, 0, ⟨#[]⟩, 0, 0, 0, 0⟩) (.inr (.inr (.inl rfl))) (fun E i h1 h2 _ => by
  unfold za2 zbg
  rw [h1, h2]
  dsimp only
  rw [if_neg (by decide), if_neg (by decide), if_neg (by decide), if_neg (by decide), if_neg (by decide), if_neg (by decide), if_neg (by decide), if_neg (by decide), if_neg (by decide), if_pos rfl]
  rw [hz, ho]) (by decide) [none] [none] rfl rfl).high (by omega)
theorem rds_n7 {n : Nd} (h : T.alE n = 0) (ho : n.op = 7) {a b : Ent} {Q R : List Nd} {h1 h2 H : Nat} (q : Rds a.1 a.2 Q h1) (r : Rds b.1 b.2 R h2) (hH : h1 + 1 <= H ∨ (1 <= a.1 /\ h1 <= H)) (hH2 : h2 + 1 <= H) : Rds (hld n.op) (zaj n a b) (Q ++ R ++ [n]) H := by
 have hz := ziC h (by omega)
 rw [zlz ho, ho, hz, ho]
 exact zqt (zdy q (by omega) hH) (zdy r (by omega) (.inl hH2))
theorem rds_n8 {n : Nd} (h : T.alE n = 0) (ho : n.op = 8) {a b : Ent} {Q R : List Nd} {h1 h2 H : Nat} (q : Rds a.1 a.2 Q h1) (r : Rds b.1 b.2 R h2) (hH : h1 + 1 <= H ∨ (0 <= a.1 /\ h1 <= H)) (hH2 : h2 + 1 <= H) : Rds (hld n.op) (zaj n a b) (Q ++ R ++ [n]) H := by
 have hz := ziC h (by omega)
 rw [zlA ho, ho, hz, ho]
 exact zqu (zdy q (by omega) hH) (zdy r (by omega) (.inl hH2))
end Go.Proofs.YtnpifgcgjgddoaaGreatDoor.N
namespace Go.Proofs.YtnpifgcgjgddoaaGreatDoor
open Go.RowKit
theorem znC {s : ByteArray} {i j : Nat} (h : zbT s i = zbT s j) : ∀ l, Chn s j l -> Chn s i l := by
 intro l hl
 cases l with
 | nil => exact h.trans hl
 | cons t l =>
  obtain ⟨h1, h2, e, e1, e2, e3, h3⟩ := hl
  exact ⟨by rw [h]; exact h1, by rw [h]; exact h2, e, e1, by rw [h]; exact e2, e3, h3⟩
def sgT (k : Int) (i : Nat) : Tk := ⟨k, 0, i, (i + 1 : Nat), ⟨#[]⟩, 0, 0, 0, 0⟩
theorem znD {s : ByteArray} {i : Nat} {c : Int} (h : chr s i = c) (hc : c = 32 ∨ c = 10) : zbT s i = zbT s (i + 1) := by
 have hlt : i < s.size := zaC (by omega)
 rw [zb7, if_pos hlt, if_neg (by omega), if_pos (by omega)]
theorem zoq {s : ByteArray} {i : Nat} {c : Int} {M : List Tk} (h : chr s i = c) (hc : c = 32 ∨ c = 10) (hM : Chn s (i + 1) M) : Chn s i M := znC (znD h hc) _ hM
end Go.Proofs.YtnpifgcgjgddoaaGreatDoor
namespace Go.Proofs.YtnpifgcgjgddoaaGreatDoor.N
open Go.RowKit
def who (E : PE) (ns : List Nd) : Prop := exN E 0 = .inl (E.l.length, ns)
theorem zlD {E : PE} {ns : List Nd} (h : who E ns) : alN E = .inl [(0, ⟨#[]⟩, ns)] := by
 unfold alN
 unfold who at h
 rw [h]
 show (if E.l.length < E.l.length then _ else _) = _
 rw [if_neg (Nat.lt_irrefl _)]
theorem zqL {E : PE} {z : Nat} {ns : List Nd} (h1 : (T.ck ns).2 = 0) (h2 : ns.length <= 2048) : szR E z [(0, ⟨#[]⟩, ns)] = none := by
 unfold szR
 show zhj E z 0 [(0, ⟨#[]⟩, ns)] = none
 rw [zhj, if_neg (by rw [h1]; simp), if_neg (by show ¬ 2048 < 0 + ns.length; omega), zhj]
theorem zqM {s : ByteArray} {l : List Tk} {ns : List Nd} (hl : zcl (zaz s) s = .inl l) (h : who (mkE l) ns) (h1 : (T.ck ns).2 = 0) (h2 : ns.length <= 2048) : paR s = .inl [(⟨#[]⟩, ns)] := by
 unfold paR
 rw [hl]
 show fin (mkE l) s.size (alN (mkE l)) = _
 rw [zlD h]
 unfold fin
 simp only [zqL h1 h2]
 rfl
theorem zor {L : List Nd} (h : (T.ck L).2 = 0) : L.length <= 2048 := by
 unfold T.ck at h
 by_cases q : 2048 < L.length
 ·rw [if_pos q] at h; exact absurd h (by decide)
 ·omega
end Go.Proofs.YtnpifgcgjgddoaaGreatDoor.N
