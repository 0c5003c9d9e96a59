/- DERIVED. Plain mathematics and walks, laid together (7). -/
import Derived.Deep.AppendLies
import Derived.WalkSpells
import Derived.Test.YtnpifgcgjgddoaaDoorPt06
namespace Go.Proofs.YtnpifgcgjgddoaaDoor.N
open Go.RowKit
theorem itT_nil : itT [] = [] := rfl
/-- What a node says besides its kind. -/
def fldX (n : Nd) : ByteArray := match agT n with
  | none => ⟨#[]⟩
  | some t => tkX t
def grS (s : ByteArray) : ByteArray := if s.size = 0 then ⟨#[123, 58]⟩ else ⟨#[123, 58]⟩ ++ s ++ ⟨#[58]⟩
def frA (n : Nd) : ByteArray := if n.op = 1 then ⟨#[37, 101]⟩ else if n.op = 2 then ⟨#[37, 102]⟩ else if n.op = 3 then ⟨#[46]⟩ else if n.op = 17 then ⟨#[123, 125]⟩ else if n.op = 12 then ⟨#[38]⟩ else if n.op = 13 then ⟨#[33]⟩ else
  if n.op = 18 then ⟨#[123]⟩ else if n.op = 19 then grS n.tx ++ ⟨#[32]⟩ else if n.op = 20 then ⟨#[123, 124, 32]⟩ else if n.op = 21 then ⟨#[123, 126, 32]⟩ else if n.op = 4 ∨ n.op = 5 ∨ n.op = 6 then fldX n else ⟨#[]⟩
def frB (n : Nd) : ByteArray := if n.op = 7 then ⟨#[32]⟩ else if n.op = 8 then ⟨#[32, 47, 32]⟩ else ⟨#[]⟩
def frC (n : Nd) : ByteArray := if n.op = 9 then ⟨#[42]⟩ else if n.op = 10 then ⟨#[43]⟩ else if n.op = 11 then ⟨#[63]⟩ else if n.op = 14 then ⟨#[94]⟩ ++ fldX n else if n.op = 15 then ⟨#[94, 43]⟩ ++ fldX n else
  if n.op = 16 then ⟨#[94, 45]⟩ ++ fldX n else if n.op = 22 ∨ n.op = 23 then ⟨#[32, 45, 62, 32]⟩ ++ fldX n else if n.op = 18 then ⟨#[125]⟩ else if n.op = 19 then ⟨#[32, 58, 125]⟩ else if n.op = 20 then ⟨#[32, 124, 125]⟩ else
  if n.op = 21 then ⟨#[32, 126, 125]⟩ else ⟨#[]⟩
/-- How strongly a part must hold. -/
def asK (op : Int) (i : Nat) : Nat := if hld op = 4 then 0 else hld op + i
theorem cat_list (a b : ByteArray) : (a ++ b).data.toList = a.data.toList ++ b.data.toList := by rw [ByteArray.data_append, Array.toList_append]
theorem itX_some (t : Tk) : itX (some t) = (tkX t).data.toList := rfl
theorem gr_text (s : ByteArray) : itX (txI 21 s) = (grS s).data.toList := by
  show (tkX ⟨21, 0, 0, 0, s, 0, 0, 0, 0⟩).data.toList = _
  have e : tkX ⟨21, 0, 0, 0, s, 0, 0, 0, 0⟩ = ⟨#[123, 58]⟩ ++ gnm s := rfl
  rw [e, cat_list]
  unfold gnm grS
  by_cases h : s.size = 0
  · rw [if_pos h, if_pos h]
    rfl
  · rw [if_neg h, if_neg h, cat_list, cat_list, cat_list]
    rfl
theorem fdx4 {n : Nd} (h : n.op = 4) : fldX n = Q.asText (Q.qT n.tx) := by
  have : agT n = some ⟨2, 0, 0, 0, n.tx, 0, 0, 0, 0⟩ := by unfold agT; rw [h]; rfl
  unfold fldX
  rw [this]
  rfl
theorem fdx22 {n : Nd} (h : n.op = 22) : fldX n = Q.asText (Q.qT n.tx) := by
  have : agT n = some ⟨2, 0, 0, 0, n.tx, 0, 0, 0, 0⟩ := by unfold agT; rw [h]; rfl
  unfold fldX
  rw [this]
  rfl
theorem fdx5 {n : Nd} (h : n.op = 5) : fldX n = txO (shT (mkS n.s0 n.s1 n.s2 n.s3)) := by
  have : agT n = some ⟨3, 0, 0, 0, ⟨#[]⟩, n.s0, n.s1, n.s2, n.s3⟩ := by unfold agT; rw [h]; rfl
  unfold fldX
  rw [this]
  rfl
theorem fdx6 {n : Nd} (h : n.op = 6) : fldX n = n.tx := by
  have : agT n = some ⟨1, 0, 0, 0, n.tx, 0, 0, 0, 0⟩ := by unfold agT; rw [h]; rfl
  unfold fldX
  rw [this]
  rfl
theorem fdx14 {n : Nd} (h : n.op = 14) : fldX n = txO (dgT 10 n.nn.toNat) := by
  have : agT n = some ⟨4, n.nn, 0, 0, ⟨#[]⟩, 0, 0, 0, 0⟩ := by unfold agT; rw [h]; rfl
  unfold fldX
  rw [this]
  rfl
theorem fdx15 {n : Nd} (h : n.op = 15) : fldX n = txO (dgT 10 n.nn.toNat) := by
  have : agT n = some ⟨4, n.nn, 0, 0, ⟨#[]⟩, 0, 0, 0, 0⟩ := by unfold agT; rw [h]; rfl
  unfold fldX
  rw [this]
  rfl
theorem fdx16 {n : Nd} (h : n.op = 16) : fldX n = txO (dgT 10 n.nn.toNat) := by
  have : agT n = some ⟨4, n.nn, 0, 0, ⟨#[]⟩, 0, 0, 0, 0⟩ := by unfold agT; rw [h]; rfl
  unfold fldX
  rw [this]
  rfl
theorem fdx23 {n : Nd} (h : n.op = 23) : fldX n = txO (dgT 10 n.nn.toNat) := by
  have : agT n = some ⟨4, n.nn, 0, 0, ⟨#[]⟩, 0, 0, 0, 0⟩ := by unfold agT; rw [h]; rfl
  unfold fldX
  rw [this]
  rfl
theorem fdx19 {n : Nd} (h : n.op = 19) : fldX n = n.tx := by
  have e : agT n = if n.tx.size = 0 then none else some ⟨1, 0, 0, 0, n.tx, 0, 0, 0, 0⟩ := by unfold agT; rw [h]; rfl
  unfold fldX
  rw [e]
  by_cases q : n.tx.size = 0
  · rw [if_pos q]
    exact (emp_of (by omega)).symm
  · rw [if_neg q]
    rfl
theorem fdx1 {n : Nd} (h : n.op = 1) : fldX n = ⟨#[]⟩ := by
  have : agT n = none := by unfold agT; rw [h]; rfl
  unfold fldX
  rw [this]
theorem fdx2 {n : Nd} (h : n.op = 2) : fldX n = ⟨#[]⟩ := by
  have : agT n = none := by unfold agT; rw [h]; rfl
  unfold fldX
  rw [this]
theorem fdx3 {n : Nd} (h : n.op = 3) : fldX n = ⟨#[]⟩ := by
  have : agT n = none := by unfold agT; rw [h]; rfl
  unfold fldX
  rw [this]
theorem fdx7 {n : Nd} (h : n.op = 7) : fldX n = ⟨#[]⟩ := by
  have : agT n = none := by unfold agT; rw [h]; rfl
  unfold fldX
  rw [this]
theorem fdx8 {n : Nd} (h : n.op = 8) : fldX n = ⟨#[]⟩ := by
  have : agT n = none := by unfold agT; rw [h]; rfl
  unfold fldX
  rw [this]
theorem fdx9 {n : Nd} (h : n.op = 9) : fldX n = ⟨#[]⟩ := by
  have : agT n = none := by unfold agT; rw [h]; rfl
  unfold fldX
  rw [this]
theorem fdx10 {n : Nd} (h : n.op = 10) : fldX n = ⟨#[]⟩ := by
  have : agT n = none := by unfold agT; rw [h]; rfl
  unfold fldX
  rw [this]
theorem fdx11 {n : Nd} (h : n.op = 11) : fldX n = ⟨#[]⟩ := by
  have : agT n = none := by unfold agT; rw [h]; rfl
  unfold fldX
  rw [this]
theorem fdx12 {n : Nd} (h : n.op = 12) : fldX n = ⟨#[]⟩ := by
  have : agT n = none := by unfold agT; rw [h]; rfl
  unfold fldX
  rw [this]
theorem fdx13 {n : Nd} (h : n.op = 13) : fldX n = ⟨#[]⟩ := by
  have : agT n = none := by unfold agT; rw [h]; rfl
  unfold fldX
  rw [this]
theorem fdx17 {n : Nd} (h : n.op = 17) : fldX n = ⟨#[]⟩ := by
  have : agT n = none := by unfold agT; rw [h]; rfl
  unfold fldX
  rw [this]
theorem fdx18 {n : Nd} (h : n.op = 18) : fldX n = ⟨#[]⟩ := by
  have : agT n = none := by unfold agT; rw [h]; rfl
  unfold fldX
  rw [this]
theorem fdx20 {n : Nd} (h : n.op = 20) : fldX n = ⟨#[]⟩ := by
  have : agT n = none := by unfold agT; rw [h]; rfl
  unfold fldX
  rw [this]
theorem fdx21 {n : Nd} (h : n.op = 21) : fldX n = ⟨#[]⟩ := by
  have : agT n = none := by unfold agT; rw [h]; rfl
  unfold fldX
  rw [this]
theorem fr1 {n : Nd} (h : n.op = 1) : frA n = ⟨#[37, 101]⟩ ∧ frB n = ⟨#[]⟩ ∧ frC n = ⟨#[]⟩ := by
  refine ⟨?_, ?_, ?_⟩
  · unfold frA; rw [h]; rfl
  · unfold frB; rw [h]; rfl
  · unfold frC; rw [h]; rfl
theorem fr2 {n : Nd} (h : n.op = 2) : frA n = ⟨#[37, 102]⟩ ∧ frB n = ⟨#[]⟩ ∧ frC n = ⟨#[]⟩ := by
  refine ⟨?_, ?_, ?_⟩
  · unfold frA; rw [h]; rfl
  · unfold frB; rw [h]; rfl
  · unfold frC; rw [h]; rfl
theorem fr3 {n : Nd} (h : n.op = 3) : frA n = ⟨#[46]⟩ ∧ frB n = ⟨#[]⟩ ∧ frC n = ⟨#[]⟩ := by
  refine ⟨?_, ?_, ?_⟩
  · unfold frA; rw [h]; rfl
  · unfold frB; rw [h]; rfl
  · unfold frC; rw [h]; rfl
theorem fr4 {n : Nd} (h : n.op = 4) : frA n = fldX n ∧ frB n = ⟨#[]⟩ ∧ frC n = ⟨#[]⟩ := by
  refine ⟨?_, ?_, ?_⟩
  · unfold frA; rw [h]; rfl
  · unfold frB; rw [h]; rfl
  · unfold frC; rw [h]; rfl
theorem fr5 {n : Nd} (h : n.op = 5) : frA n = fldX n ∧ frB n = ⟨#[]⟩ ∧ frC n = ⟨#[]⟩ := by
  refine ⟨?_, ?_, ?_⟩
  · unfold frA; rw [h]; rfl
  · unfold frB; rw [h]; rfl
  · unfold frC; rw [h]; rfl
theorem fr6 {n : Nd} (h : n.op = 6) : frA n = fldX n ∧ frB n = ⟨#[]⟩ ∧ frC n = ⟨#[]⟩ := by
  refine ⟨?_, ?_, ?_⟩
  · unfold frA; rw [h]; rfl
  · unfold frB; rw [h]; rfl
  · unfold frC; rw [h]; rfl
theorem fr7 {n : Nd} (h : n.op = 7) : frA n = ⟨#[]⟩ ∧ frB n = ⟨#[32]⟩ ∧ frC n = ⟨#[]⟩ := by
  refine ⟨?_, ?_, ?_⟩
  · unfold frA; rw [h]; rfl
  · unfold frB; rw [h]; rfl
  · unfold frC; rw [h]; rfl
theorem fr8 {n : Nd} (h : n.op = 8) : frA n = ⟨#[]⟩ ∧ frB n = ⟨#[32, 47, 32]⟩ ∧ frC n = ⟨#[]⟩ := by
  refine ⟨?_, ?_, ?_⟩
  · unfold frA; rw [h]; rfl
  · unfold frB; rw [h]; rfl
  · unfold frC; rw [h]; rfl
theorem fr9 {n : Nd} (h : n.op = 9) : frA n = ⟨#[]⟩ ∧ frB n = ⟨#[]⟩ ∧ frC n = ⟨#[42]⟩ := by
  refine ⟨?_, ?_, ?_⟩
  · unfold frA; rw [h]; rfl
  · unfold frB; rw [h]; rfl
  · unfold frC; rw [h]; rfl
theorem fr10 {n : Nd} (h : n.op = 10) : frA n = ⟨#[]⟩ ∧ frB n = ⟨#[]⟩ ∧ frC n = ⟨#[43]⟩ := by
  refine ⟨?_, ?_, ?_⟩
  · unfold frA; rw [h]; rfl
  · unfold frB; rw [h]; rfl
  · unfold frC; rw [h]; rfl
theorem fr11 {n : Nd} (h : n.op = 11) : frA n = ⟨#[]⟩ ∧ frB n = ⟨#[]⟩ ∧ frC n = ⟨#[63]⟩ := by
  refine ⟨?_, ?_, ?_⟩
  · unfold frA; rw [h]; rfl
  · unfold frB; rw [h]; rfl
  · unfold frC; rw [h]; rfl
theorem fr12 {n : Nd} (h : n.op = 12) : frA n = ⟨#[38]⟩ ∧ frB n = ⟨#[]⟩ ∧ frC n = ⟨#[]⟩ := by
  refine ⟨?_, ?_, ?_⟩
  · unfold frA; rw [h]; rfl
  · unfold frB; rw [h]; rfl
  · unfold frC; rw [h]; rfl
theorem fr13 {n : Nd} (h : n.op = 13) : frA n = ⟨#[33]⟩ ∧ frB n = ⟨#[]⟩ ∧ frC n = ⟨#[]⟩ := by
  refine ⟨?_, ?_, ?_⟩
  · unfold frA; rw [h]; rfl
  · unfold frB; rw [h]; rfl
  · unfold frC; rw [h]; rfl
theorem fr14 {n : Nd} (h : n.op = 14) : frA n = ⟨#[]⟩ ∧ frB n = ⟨#[]⟩ ∧ frC n = ⟨#[94]⟩ ++ fldX n := by
  refine ⟨?_, ?_, ?_⟩
  · unfold frA; rw [h]; rfl
  · unfold frB; rw [h]; rfl
  · unfold frC; rw [h]; rfl
theorem fr15 {n : Nd} (h : n.op = 15) : frA n = ⟨#[]⟩ ∧ frB n = ⟨#[]⟩ ∧ frC n = ⟨#[94, 43]⟩ ++ fldX n := by
  refine ⟨?_, ?_, ?_⟩
  · unfold frA; rw [h]; rfl
  · unfold frB; rw [h]; rfl
  · unfold frC; rw [h]; rfl
theorem fr16 {n : Nd} (h : n.op = 16) : frA n = ⟨#[]⟩ ∧ frB n = ⟨#[]⟩ ∧ frC n = ⟨#[94, 45]⟩ ++ fldX n := by
  refine ⟨?_, ?_, ?_⟩
  · unfold frA; rw [h]; rfl
  · unfold frB; rw [h]; rfl
  · unfold frC; rw [h]; rfl
theorem fr17 {n : Nd} (h : n.op = 17) : frA n = ⟨#[123, 125]⟩ ∧ frB n = ⟨#[]⟩ ∧ frC n = ⟨#[]⟩ := by
  refine ⟨?_, ?_, ?_⟩
  · unfold frA; rw [h]; rfl
  · unfold frB; rw [h]; rfl
  · unfold frC; rw [h]; rfl
theorem fr18 {n : Nd} (h : n.op = 18) : frA n = ⟨#[123]⟩ ∧ frB n = ⟨#[]⟩ ∧ frC n = ⟨#[125]⟩ := by
  refine ⟨?_, ?_, ?_⟩
  · unfold frA; rw [h]; rfl
  · unfold frB; rw [h]; rfl
  · unfold frC; rw [h]; rfl
theorem fr19 {n : Nd} (h : n.op = 19) : frA n = grS n.tx ++ ⟨#[32]⟩ ∧ frB n = ⟨#[]⟩ ∧ frC n = ⟨#[32, 58, 125]⟩ := by
  refine ⟨?_, ?_, ?_⟩
  · unfold frA; rw [h]; rfl
  · unfold frB; rw [h]; rfl
  · unfold frC; rw [h]; rfl
theorem fr20 {n : Nd} (h : n.op = 20) : frA n = ⟨#[123, 124, 32]⟩ ∧ frB n = ⟨#[]⟩ ∧ frC n = ⟨#[32, 124, 125]⟩ := by
  refine ⟨?_, ?_, ?_⟩
  · unfold frA; rw [h]; rfl
  · unfold frB; rw [h]; rfl
  · unfold frC; rw [h]; rfl
theorem fr21 {n : Nd} (h : n.op = 21) : frA n = ⟨#[123, 126, 32]⟩ ∧ frB n = ⟨#[]⟩ ∧ frC n = ⟨#[32, 126, 125]⟩ := by
  refine ⟨?_, ?_, ?_⟩
  · unfold frA; rw [h]; rfl
  · unfold frB; rw [h]; rfl
  · unfold frC; rw [h]; rfl
theorem fr22 {n : Nd} (h : n.op = 22) : frA n = ⟨#[]⟩ ∧ frB n = ⟨#[]⟩ ∧ frC n = ⟨#[32, 45, 62, 32]⟩ ++ fldX n := by
  refine ⟨?_, ?_, ?_⟩
  · unfold frA; rw [h]; rfl
  · unfold frB; rw [h]; rfl
  · unfold frC; rw [h]; rfl
theorem fr23 {n : Nd} (h : n.op = 23) : frA n = ⟨#[]⟩ ∧ frB n = ⟨#[]⟩ ∧ frC n = ⟨#[32, 45, 62, 32]⟩ ++ fldX n := by
  refine ⟨?_, ?_, ?_⟩
  · unfold frA; rw [h]; rfl
  · unfold frB; rw [h]; rfl
  · unfold frC; rw [h]; rfl
/-- A node's text by its parts'. -/
theorem fr_node {n : Nd} (h : T.alE n = 0) (a b : Ent) : itT (nodeI n a b) = (frA n).data.toList ++ ((if T.arN n.op = 0 then [] else if T.arN n.op = 1 then itT (partI (asK n.op 0) a) else itT (partI (asK n.op 0) a) ++ ((frB n).data.toList ++ itT (partI (asK n.op 1) b))) ++ (frC n).data.toList) := by
  rcases ar_ops h with ⟨z, o⟩ | ⟨z, o⟩ | ⟨z, o⟩
  · rcases o with o | o | o | o | o | o | o
    · obtain ⟨fa, fb, fc⟩ := fr1 o
      rw [fa, fb, fc, nodeI1 o, z]
      rw [if_pos rfl, List.nil_append]
      simp only [itT_cons, itT_nil, List.append_nil]
      rfl
    · obtain ⟨fa, fb, fc⟩ := fr2 o
      rw [fa, fb, fc, nodeI2 o, z]
      rw [if_pos rfl, List.nil_append]
      simp only [itT_cons, itT_nil, List.append_nil]
      rfl
    · obtain ⟨fa, fb, fc⟩ := fr3 o
      rw [fa, fb, fc, nodeI3 o, z]
      rw [if_pos rfl, List.nil_append]
      simp only [itT_cons, itT_nil, List.append_nil]
      rfl
    · obtain ⟨fa, fb, fc⟩ := fr4 o
      rw [fa, fb, fc, nodeI4 o, z]
      rw [fdx4 o]
      rw [if_pos rfl, List.nil_append]
      simp only [itT_cons, itT_nil, List.append_nil]
      rfl
    · obtain ⟨fa, fb, fc⟩ := fr5 o
      rw [fa, fb, fc, nodeI5 o, z]
      rw [fdx5 o]
      rw [if_pos rfl, List.nil_append]
      simp only [itT_cons, itT_nil, List.append_nil]
      rfl
    · obtain ⟨fa, fb, fc⟩ := fr6 o
      rw [fa, fb, fc, nodeI6 o, z]
      rw [fdx6 o]
      rw [if_pos rfl, List.nil_append]
      simp only [itT_cons, itT_nil, List.append_nil]
      rfl
    · obtain ⟨fa, fb, fc⟩ := fr17 o
      rw [fa, fb, fc, nodeI17 o, z]
      rw [if_pos rfl, List.nil_append]
      simp only [itT_cons, itT_nil, List.append_nil]
      rfl
  · rcases o with o | o
    · obtain ⟨fa, fb, fc⟩ := fr7 o
      rw [fa, fb, fc, nodeI7 o, z]
      have e : asK n.op 0 = 1 := by rw [o]; rfl
      have e1 : asK n.op 1 = 2 := by rw [o]; rfl
      rw [if_neg (by decide), if_neg (by decide), e, e1]
      simp only [itT_app, itT_cons, itT_nil, List.append_nil]
      rfl
    · obtain ⟨fa, fb, fc⟩ := fr8 o
      rw [fa, fb, fc, nodeI8 o, z]
      have e : asK n.op 0 = 0 := by rw [o]; rfl
      have e1 : asK n.op 1 = 1 := by rw [o]; rfl
      rw [if_neg (by decide), if_neg (by decide), e, e1]
      simp only [itT_app, itT_cons, itT_nil, List.append_nil]
      rfl
  · rcases o with o | o | o | o | o | o | o | o | o | o | o | o | o | o
    · obtain ⟨fa, fb, fc⟩ := fr9 o
      rw [fa, fb, fc, nodeI9 o, z]
      have e : asK n.op 0 = 3 := by rw [o]; rfl
      rw [if_neg (by decide), if_pos rfl, e]
      simp only [itT_app, itT_cons, itT_nil, List.append_nil]
      rfl
    · obtain ⟨fa, fb, fc⟩ := fr10 o
      rw [fa, fb, fc, nodeI10 o, z]
      have e : asK n.op 0 = 3 := by rw [o]; rfl
      rw [if_neg (by decide), if_pos rfl, e]
      simp only [itT_app, itT_cons, itT_nil, List.append_nil]
      rfl
    · obtain ⟨fa, fb, fc⟩ := fr11 o
      rw [fa, fb, fc, nodeI11 o, z]
      have e : asK n.op 0 = 3 := by rw [o]; rfl
      rw [if_neg (by decide), if_pos rfl, e]
      simp only [itT_app, itT_cons, itT_nil, List.append_nil]
      rfl
    · obtain ⟨fa, fb, fc⟩ := fr12 o
      rw [fa, fb, fc, nodeI12 o, z]
      have e : asK n.op 0 = 2 := by rw [o]; rfl
      rw [if_neg (by decide), if_pos rfl, e]
      simp only [itT_app, itT_cons, itT_nil, List.append_nil]
      rfl
    · obtain ⟨fa, fb, fc⟩ := fr13 o
      rw [fa, fb, fc, nodeI13 o, z]
      have e : asK n.op 0 = 2 := by rw [o]; rfl
      rw [if_neg (by decide), if_pos rfl, e]
      simp only [itT_app, itT_cons, itT_nil, List.append_nil]
      rfl
    · obtain ⟨fa, fb, fc⟩ := fr14 o
      rw [fa, fb, fc, nodeI14 o, z]
      rw [fdx14 o]
      have e : asK n.op 0 = 3 := by rw [o]; rfl
      rw [if_neg (by decide), if_pos rfl, e]
      simp only [itT_app, itT_cons, itT_nil, List.append_nil, cat_list]
      rfl
    · obtain ⟨fa, fb, fc⟩ := fr15 o
      rw [fa, fb, fc, nodeI15 o, z]
      rw [fdx15 o]
      have e : asK n.op 0 = 3 := by rw [o]; rfl
      rw [if_neg (by decide), if_pos rfl, e]
      simp only [itT_app, itT_cons, itT_nil, List.append_nil, cat_list]
      rfl
    · obtain ⟨fa, fb, fc⟩ := fr16 o
      rw [fa, fb, fc, nodeI16 o, z]
      rw [fdx16 o]
      have e : asK n.op 0 = 3 := by rw [o]; rfl
      rw [if_neg (by decide), if_pos rfl, e]
      simp only [itT_app, itT_cons, itT_nil, List.append_nil, cat_list]
      rfl
    · obtain ⟨fa, fb, fc⟩ := fr18 o
      rw [fa, fb, fc, nodeI18 o, z]
      have e : asK n.op 0 = 0 := by rw [o]; rfl
      rw [if_neg (by decide), if_pos rfl, e]
      simp only [itT_app, itT_cons, itT_nil, List.append_nil]
      rfl
    · obtain ⟨fa, fb, fc⟩ := fr19 o
      rw [fa, fb, fc, nodeI19 o, z]
      simp only [if_neg (show ¬ (1 : Nat) = 0 from by decide), if_pos, itT_app, itT_cons, itT_nil, List.append_nil, gr_text, cat_list]
      have e : asK n.op 0 = 0 := by rw [o]; rfl
      rw [e]
      simp only [List.append_assoc]
      rfl
    · obtain ⟨fa, fb, fc⟩ := fr20 o
      rw [fa, fb, fc, nodeI20 o, z]
      have e : asK n.op 0 = 0 := by rw [o]; rfl
      rw [if_neg (by decide), if_pos rfl, e]
      simp only [itT_app, itT_cons, itT_nil, List.append_nil]
      rfl
    · obtain ⟨fa, fb, fc⟩ := fr21 o
      rw [fa, fb, fc, nodeI21 o, z]
      have e : asK n.op 0 = 0 := by rw [o]; rfl
      rw [if_neg (by decide), if_pos rfl, e]
      simp only [itT_app, itT_cons, itT_nil, List.append_nil]
      rfl
    · obtain ⟨fa, fb, fc⟩ := fr22 o
      rw [fa, fb, fc, nodeI22 o, z]
      rw [fdx22 o]
      have e : asK n.op 0 = 3 := by rw [o]; rfl
      rw [if_neg (by decide), if_pos rfl, e]
      simp only [itT_app, itT_cons, itT_nil, List.append_nil, cat_list]
      rfl
    · obtain ⟨fa, fb, fc⟩ := fr23 o
      rw [fa, fb, fc, nodeI23 o, z]
      rw [fdx23 o]
      have e : asK n.op 0 = 3 := by rw [o]; rfl
      rw [if_neg (by decide), if_pos rfl, e]
      simp only [itT_app, itT_cons, itT_nil, List.append_nil, cat_list]
      rfl
/-- The last nodes of a node's parts. -/
def kds (L : List Nd) (k : Nat) : List Nat := if T.arN (T.opAt L k) = 0 then [] else if T.arN (T.opAt L k) = 1 then [k - 1] else [(T.pt L (k - 1)).1 - 1, k - 1]
/-- The text of the first parts, and what stands between. -/
def kdT (L : List Nd) (n : Nd) (ks : List Nat) : Nat → List UInt8
  | 0 => []
  | i + 1 => match ks[i]? with
    | some j => kdT L n ks i ++ ((if i = 0 then [] else (frB n).data.toList) ++ itT (partI (asK n.op i) (enX L j)))
    | none => kdT L n ks i
theorem kdT_succ {L : List Nd} {n : Nd} {ks : List Nat} {i j : Nat} (h : ks[i]? = some j) : kdT L n ks (i + 1) = kdT L n ks i ++ ((if i = 0 then [] else (frB n).data.toList) ++ itT (partI (asK n.op i) (enX L j))) := by
  rw [kdT, h]
theorem kds_len (L : List Nd) (k : Nat) : (kds L k).length = T.arN (T.opAt L k) := by
  have := T.arN_le (T.opAt L k)
  unfold kds
  split
  · simp only [List.length_nil]; omega
  · split
    · simp only [List.length_singleton]; omega
    · simp only [List.length_cons, List.length_nil]; omega
theorem en_text {L : List Nd} {k : Nat} {n : Nd} (hn : L[k]? = some n) (he : ∀ j, j ≤ k → T.er L j = 0) : itT (enX L k).2 = (frA n).data.toList ++ (kdT L n (kds L k) (kds L k).length ++ (frC n).data.toList) := by
  have hok := T.er_ok hn (he k (Nat.le_refl _))
  rw [en_node hn he]
  show itT (nodeI n _ _) = _
  rw [fr_node hok.al]
  congr 2
  have hop : T.opAt L k = n.op := T.op_of hn
  have h2 := T.arN_le n.op
  by_cases a0 : T.arN n.op = 0
  · have hks : kds L k = [] := by unfold kds; rw [hop, if_pos a0]
    rw [hks, if_pos a0]; rfl
  by_cases a1 : T.arN n.op = 1
  · have hks : kds L k = [k - 1] := by unfold kds; rw [hop, if_neg a0, if_pos a1]
    rw [hks, if_neg a0, if_pos a1, if_neg (by omega), if_pos a1]
    show _ = kdT L n [k - 1] (0 + 1)
    rw [kdT_succ (j := k - 1) rfl]
    rfl
  · have hks : kds L k = [(T.pt L (k - 1)).1 - 1, k - 1] := by unfold kds; rw [hop, if_neg a0, if_neg a1]
    rw [hks, if_neg a0, if_neg a1, if_pos (by omega), if_neg a0]
    show _ = kdT L n [(T.pt L (k - 1)).1 - 1, k - 1] (1 + 1)
    rw [kdT_succ (j := k - 1) rfl, kdT_succ (j := (T.pt L (k - 1)).1 - 1) rfl]
    rfl
theorem en_hld {L : List Nd} {k : Nat} {n : Nd} (hn : L[k]? = some n) (he : ∀ j, j ≤ k → T.er L j = 0) : (enX L k).1 = hld n.op := by rw [en_node hn he]
/-- The parts lie ahead. -/
theorem kds_lt {L : List Nd} {k : Nat} {n : Nd} (hn : L[k]? = some n) (he : ∀ j, j ≤ k → T.er L j = 0) : ∀ j ∈ kds L k, j < k := by
  have hk : k < L.length := (List.getElem?_eq_some_iff.1 hn).1
  have hok := T.er_ok hn (he k (Nat.le_refl _))
  have har := hok.ar
  obtain ⟨r1, r2⟩ := run_two (Nat.le_of_lt hk) (fun j hj => he j (by omega))
  have hop : T.opAt L k = n.op := T.op_of hn
  have h2 := T.arN_le n.op
  intro j hj
  unfold kds at hj
  rw [hop] at hj
  by_cases a0 : T.arN n.op = 0
  · rw [if_pos a0] at hj; cases hj
  rw [if_neg a0] at hj
  have q0 : (T.run L k)[0]? = some (T.run L k)[0] := List.getElem?_eq_getElem (by omega)
  have g0 := (r1 _ q0).2.2
  by_cases a1 : T.arN n.op = 1
  · rw [if_pos a1, List.mem_singleton] at hj
    omega
  · rw [if_neg a1] at hj
    have q1 : (T.run L k)[1]? = some (T.run L k)[1] := List.getElem?_eq_getElem (by omega)
    have g1 := (r2 _ q1).2.2
    have g2 := (T.run_bd (Nat.le_of_lt hk) (fun j hj => he j (by omega)) _ (List.getElem_mem (show 0 < (T.run L k).length by omega))).1
    have g3 := (r1 _ q0).2.1
    rw [(r1 _ q0).1] at g2 g3
    rcases List.mem_cons.1 hj with rfl | hj
    · omega
    · rw [List.mem_singleton] at hj; omega
/-- They are what waits on the stack. -/
theorem kds_run {L : List Nd} {k : Nat} {n : Nd} (hn : L[k]? = some n) (he : ∀ j, j ≤ k → T.er L j = 0) : kds L k = (((T.run L k).take (T.arN n.op)).reverse).map fun p => p.2.1 := by
  have hk : k < L.length := (List.getElem?_eq_some_iff.1 hn).1
  have hok := T.er_ok hn (he k (Nat.le_refl _))
  have har := hok.ar
  obtain ⟨r1, r2⟩ := run_two (Nat.le_of_lt hk) (fun j hj => he j (by omega))
  have hop : T.opAt L k = n.op := T.op_of hn
  have h2 := T.arN_le n.op
  unfold kds
  rw [hop]
  cases hr : T.run L k with
  | nil =>
    rw [hr] at har
    rw [if_pos (by simpa using har)]
    simp
  | cons y r =>
    rw [hr] at har r1 r2
    have g0 := (r1 y rfl).2.1
    by_cases a0 : T.arN n.op = 0
    · rw [if_pos a0, a0]; rfl
    rw [if_neg a0]
    by_cases a1 : T.arN n.op = 1
    · rw [if_pos a1, a1]
      simp [g0]
    · rw [if_neg a1, show T.arN n.op = 2 from by omega]
      cases r with
      | nil => simp at har; omega
      | cons x r =>
        have g1 := (r2 x rfl).2.1
        simp [g0, g1]
end Go.Proofs.YtnpifgcgjgddoaaDoor.N

namespace Go.Proofs.YtnpifgcgjgddoaaDoor.T
open Go.RowKit
theorem Tryd.info3 : (Tryd.prog.info? 3).map (fun i => (i.zero, i.size, i.bytes)) = some (some (.int .i64 0), 1, 8) := by kernel_rfl
end Go.Proofs.YtnpifgcgjgddoaaDoor.T

namespace Go.Proofs.YtnpifgcgjgddoaaDoor.T
open Go.RowKit
def lastc (xs : List Pt) : List Value := xs.map fun x => .int .i64 x.2.1
end Go.Proofs.YtnpifgcgjgddoaaDoor.T

namespace Go.Proofs.YtnpifgcgjgddoaaDoor.N
open Go.RowKit
/-- A slice of numbers in a row of its own. -/
def KdE (W : World) (B : Nat) (own : Option Nat) (u : Value) (ks : List Nat) : Prop := ∃ A c, u = .slice A ks.length c ∧ (ks ≠ [] → ∃ g cur, A = some ⟨g, 0, none⟩ ∧ B ≤ g ∧ own ≠ some g ∧ W.heap[g]? = some (.cells cur 3 (0, 0)) ∧ ∀ (i j : Nat), ks[i]? = some j → cur[i]? = some (.int .i64 j))
theorem KdE.keep {W W' : World} {B : Nat} {own own' : Option Nat} {u : Value} {ks : List Nat} (h : KdE W B own u ks) (hb : ∀ g, B ≤ g → g < W.heap.size → own ≠ some g → W'.heap[g]? = W.heap[g]? ∧ own' ≠ some g) : KdE W' B own' u ks := by
  obtain ⟨A, c, e, h⟩ := h
  refine ⟨A, c, e, fun hne => ?_⟩
  obtain ⟨g, cur, h1, h2, h3, h4, h5⟩ := h hne
  obtain ⟨q1, q2⟩ := hb g h2 (Array.getElem?_eq_some_iff.1 h4).1 h3
  exact ⟨g, cur, h1, h2, q2, q1.trans h4, h5⟩
theorem KdE.mono {W : World} {B B' : Nat} {own : Option Nat} {u : Value} {ks : List Nat} (h : KdE W B none u ks) (hB : B' ≤ B) (ho : ∀ g, B ≤ g → own ≠ some g) : KdE W B' own u ks := by
  obtain ⟨A, c, e, h⟩ := h
  refine ⟨A, c, e, fun hne => ?_⟩
  obtain ⟨g, cur, h1, h2, h3, h4, h5⟩ := h hne
  exact ⟨g, cur, h1, by omega, ho g h2, h4, h5⟩
/-- The rows of parts. -/
def PtR (W : World) (B g : Nat) (L : List Nd) : Prop := B ≤ g ∧ ∃ cur, W.heap[g]? = some (.cells cur 76 (0, 0)) ∧ ∀ j, j < L.length → ∃ u, cur[j]? = some u ∧ KdE W B none u (kds L j)
theorem PtR.later {W W' : World} {B g : Nat} {L : List Nd} (h : PtR W B g L) (hb : Below W.heap.size W W') : PtR W' B g L := by
  obtain ⟨h1, cur, h2, h3⟩ := h
  refine ⟨h1, cur, (hb.block g (Array.getElem?_eq_some_iff.1 h2).1).trans h2, fun j hj => ?_⟩
  obtain ⟨u, q1, q2⟩ := h3 j hj
  exact ⟨u, q1, q2.keep fun g _ hl _ => ⟨hb.block g hl, by simp⟩⟩
structure AtP (L : List Nd) (w wr : World) (k m g : Nat) (v : Value) : Prop where
  o : wr.ownsRow w.heap.size 3 1 v (T.run L k).length (T.lastc (T.run L k).reverse)
  p : ∃ cur, wr.heap[g]? = some (.cells cur 76 (0, 0)) ∧ cur.size = L.length ∧ ∀ j, j < m → ∃ u, cur[j]? = some u ∧ KdE wr w.heap.size v.ownBlock u (kds L j)
  n : v.ownBlock ≠ some g
  gg : w.heap.size ≤ g
  b : Below w.heap.size w wr
theorem AtP.later {L : List Nd} {w wr w2 : World} {k m g : Nat} {v : Value} (h : AtP L w wr k m g v) (hb : Below wr.heap.size wr w2) : AtP L w w2 k m g v := by
  obtain ⟨ho, ⟨cur, h2, h3, h4⟩, hn, hg, hbb⟩ := h
  refine ⟨T.own_below ho hb, ⟨cur, (hb.block g (Array.getElem?_eq_some_iff.1 h2).1).trans h2, h3, fun j hj => ?_⟩, hn, hg, hbb.trans (hb.mono hbb.size)⟩
  obtain ⟨u, q1, q2⟩ := h4 j hj
  exact ⟨u, q1, q2.keep fun g _ hl ho => ⟨hb.block g hl, ho⟩⟩
theorem AtP.lt {L : List Nd} {w wr : World} {k m g : Nat} {v : Value} (h : AtP L w wr k m g v) : g < wr.heap.size := by
  obtain ⟨cur, h2, _⟩ := h.p
  exact (Array.getElem?_eq_some_iff.1 h2).1
/-- One entry more. -/
theorem AtP.put {L : List Nd} {w wr : World} {k g : Nat} {v u : Value} (h : AtP L w wr k k g v) (hk : k < L.length) (hu : KdE wr w.heap.size v.ownBlock u (kds L k)) (hug : KdE wr w.heap.size (some g) u (kds L k)) : AtP L w (wr.setCell ⟨g, k, none⟩ u) k (k + 1) g v := by
  have hlt := h.lt
  obtain ⟨ho, ⟨cur, h2, h3, h4⟩, hn, hg, hbb⟩ := h
  have hblk : ∀ b, b ≠ g → (wr.setCell ⟨g, k, none⟩ u).heap[b]? = wr.heap[b]? := fun b hb => Below.heap_setCell _ _ _ _ hb
  refine ⟨?_, ⟨cur.setIfInBounds k u, by rw [heap_setCell_same _ g k _ 76 u h2], by rw [Array.size_setIfInBounds]; exact h3, fun j hj => ?_⟩, hn, hg, hbb.setCell (p := ⟨g, k, none⟩) hg _⟩
  · refine ho.kept (row := some g) ⟨rfl, rfl, rfl, by simp [World.setCell], fun b _ hb => hblk b (fun e => hb (by rw [e]))⟩ (.inr hn)
  · by_cases q : j = k
    · subst q
      refine ⟨u, by rw [Array.getElem?_setIfInBounds, if_pos rfl, if_pos (by omega)], ?_⟩
      obtain ⟨A, c, e, f1⟩ := hu
      obtain ⟨A', c', e', f2⟩ := hug
      refine ⟨A, c, e, fun hne => ?_⟩
      obtain ⟨g1, cur1, p1, p2, p3, p4, p5⟩ := f1 hne
      obtain ⟨g2, cur2, r1, r2, r3, r4, r5⟩ := f2 hne
      rw [e] at e'
      injection e' with e1
      rw [p1, r1] at e1
      have e3 : g1 = g2 := by injection e1 with e1; injection e1
      subst e3
      exact ⟨g1, cur1, p1, p2, p3, (hblk g1 (fun e => r3 (by rw [e]))).trans p4, p5⟩
    · obtain ⟨u', q1, q2⟩ := h4 j (by omega)
      refine ⟨u', by rw [Array.getElem?_setIfInBounds, if_neg (by omega)]; exact q1, ?_⟩
      obtain ⟨A, c, e, f1⟩ := q2
      refine ⟨A, c, e, fun hne => ?_⟩
      obtain ⟨g1, cur1, p1, p2, p3, p4, p5⟩ := f1 hne
      refine ⟨g1, cur1, p1, p2, p3, (hblk g1 ?_).trans p4, p5⟩
      rintro rfl
      rw [h2] at p4
      cases p4
theorem Tryd.info67 : (Tryd.prog.info? 76).map (fun i => (i.zero, i.size, i.bytes)) = some (some (.slice none 0 0), 1, 24) := by kernel_rfl
theorem make90 (n : Nat) (hn : n ≤ 2048) (w : World) : (Instr.makeSlice 58 (.int .i64 n) (.int .i64 n)).run Tryd.prog w = .ok (.slice (some ⟨w.heap.size, 0, none⟩) n n) (w.alloc (.cells (madeCells #[.slice none 0 0] n) 76)) := by
  obtain ⟨i0, hinf, hz0, hz1, hz2⟩ := T.info_parts Tryd.info67
  rw [run_make w 58 76 i0 (.slice none 0 0) Tryd.underlying58 hinf hz0 .i64 .i64 n n (by omega) (by omega) (by rw [hz2]; omega) (by omega), hz1]
  rw [Int.toNat_natCast, Nat.mul_one]
  rfl
theorem own_empty3 (w : World) : (w.alloc (.cells #[] 3)).ownsRow w.heap.size 3 1 (.slice (some ⟨w.heap.size, 0, none⟩) 0 0) 0 [] :=
  ⟨rfl, .inr ⟨w.heap.size, 0, _, rfl, Nat.le_refl _, heap_alloc_new w _, Nat.le_refl _, by unfold maxLen; omega, rfl, rfl⟩⟩
/-- Numbers that are read. -/
def RdI (W : World) (A : Option Addr) (xs : List Nat) : Prop := xs ≠ [] → ∃ g o, A = some ⟨g, o, none⟩ ∧ g < W.heap.size ∧ ∀ (j x : Nat), xs[j]? = some x → W.cell? ⟨g, o + j, none⟩ = some (.int .i64 x)
theorem own_kde {W : World} {B : Nat} {v : Value} {ks : List Nat} (h : W.ownsRow B 3 1 v ks.length (ks.map fun (x : Nat) => Value.int .i64 x)) : KdE W B none v ks := by
  rcases h.2 with ⟨q1, q2⟩ | ⟨g, cap, cur, q1, q2, q3, q4, q5, q6, q7⟩
  · have : ks = [] := List.eq_nil_of_length_eq_zero q2
    subst this
    exact ⟨none, 0, q1, fun h => absurd rfl h⟩
  · refine ⟨_, cap, q1, fun _ => ⟨g, cur, rfl, q2, by simp, q3, fun i j hij => ?_⟩⟩
    have hi : i < ks.length := (List.getElem?_eq_some_iff.1 hij).1
    have : (cur.toList.take (ks.length * 1))[i]? = (ks.map fun (x : Nat) => Value.int .i64 x)[i]? := by rw [q7]
    rw [List.getElem?_take, if_pos (by omega), List.getElem?_map, hij] at this
    simpa using this
set_option maxRecDepth 100000 in
set_option maxHeartbeats 4000000 in
theorem clone_some (ad : Addr) (c : Nat) (ks : List Nat) (hl : ks.length ≤ 2) (w : World) (hc : ∀ (j : Nat) u, (ks.map fun (x : Nat) => Value.int .i64 x)[j]? = some u → w.cell? (ad.add j) = some u) :
    Calls Tryd.prog 29 #[.slice (some ad) ks.length c] w fun e w' => (∃ u, e = .returned u ∧ KdE w' w.heap.size none u ks) ∧ Below w.heap.size w w' := by
  obtain ⟨i0, hinf, hz0, hz1, hz2⟩ := T.info_parts T.Tryd.info3
  have hO := own_empty3 w
  have HB := (show Hid (Below w.heap.size w (w.alloc (.cells #[] 3))) from below_box _ _)
  have HC := (show Hid (∀ (j : Nat) u, (ks.map fun (x : Nat) => Value.int .i64 x)[j]? = some u → (w.alloc (.cells #[] 3)).cell? (ad.add j) = some u) from fun j u hj => by
    have h1 := hc j u hj
    have h2 := World.block_lt_of_cell? w _ h1
    exact ((below_box w (.cells #[] 3)).cell (p := ad.add j) h2).trans h1)
  have HI := (show Hid ((ks.map fun (x : Nat) => Value.int .i64 x).length = ks.length * 1 ∧ ∀ u ∈ (ks.map fun (x : Nat) => Value.int .i64 x), u.oneCell' = true) from ⟨by simp, fun u hu => by
    obtain ⟨x, _, rfl⟩ := List.mem_map.1 hu
    rfl⟩)
  have HK := (show Hid (∀ W v, W.ownsRow w.heap.size 3 1 v ks.length (ks.map fun (x : Nat) => Value.int .i64 x) → KdE W w.heap.size none v ks) from fun W v h => own_kde h)
  clear hc
  generalize (ks.map fun (x : Nat) => Value.int .i64 x) = xs at *
  generalize hn : ks.length = n at *
  have hnl : ∀ w : World, (binOp .eql 76 (.slice (some ad) n c) (.slice none 0 0)).run Tryd.prog w = .ok (.bool false) w := fun w => run_eql_nil_slice w 76 3 (some ad) n c 0 0 Tryd.underlying76
  go_enter Tryd.func29, Tryd.ntmps29
  go_wp2_with (at_builtin; refine wpList_append_own _ rfl _ _ 76 rfl w.heap.size 3 i0 (.int .i64 0) 1 8 Tryd.underlying76 hinf hz0 hz1 hz2 rfl (by decide) _ _ _ rfl hO ad n c xs rfl HI.out.1 HC.out HI.out.2 ?c3 ?c4 ?c5 ?_)
  case c3 => unfold maxLen; omega
  case c4 => omega
  case c5 => simp
  intro v1 w1 hown hgrow _
  have HB1 := (show Hid (Below w.heap.size w w1) from HB.out.grown hgrow (by simp) (fun k e => (hO.lt k e).1))
  have HKv := (show Hid (KdE w1 w.heap.size none v1 ks) from HK.out _ _ hown)
  clear hgrow hO HB hown HK HC HI
  go_wp2_with fail
  go_ret
  exact ⟨⟨_, rfl, HKv.out⟩, HB1.out⟩
set_option maxRecDepth 100000 in
set_option maxHeartbeats 4000000 in
theorem clone_nil (c : Nat) (w : World) : Calls Tryd.prog 29 #[.slice none 0 c] w fun e w' => (∃ u, e = .returned u ∧ KdE w' w.heap.size none u []) ∧ Below w.heap.size w w' := by
  have hnl : ∀ w : World, (binOp .eql 76 (.slice none 0 c) (.slice none 0 0)).run Tryd.prog w = .ok (.bool true) w := fun w => run_eql_nil_slice w 76 3 none 0 c 0 0 Tryd.underlying76
  go_enter Tryd.func29, Tryd.ntmps29
  go_wp2_with fail
  go_ret
  exact ⟨⟨_, rfl, none, 0, rfl, fun h => absurd rfl h⟩, Below.refl _ _⟩
theorem clone_any (A : Option Addr) (c : Nat) (ks : List Nat) (hl : ks.length ≤ 2) (w : World) (h : RdI w A ks) : Calls Tryd.prog 29 #[.slice A ks.length c] w fun e w' => (∃ u, e = .returned u ∧ KdE w' w.heap.size none u ks) ∧ Below w.heap.size w w' := by
  cases A with
  | none =>
    by_cases hk : ks = []
    · subst hk
      exact clone_nil c w
    · obtain ⟨g, o, e, _⟩ := h hk
      cases e
  | some ad =>
    refine clone_some ad c ks hl w fun j u hj => ?_
    have hlt : j < ks.length := by have := (List.getElem?_eq_some_iff.1 hj).1; simpa using this
    obtain ⟨g, o, e, _, h2⟩ := h (by rintro rfl; simp at hlt)
    cases e
    rw [List.getElem?_map, List.getElem?_eq_getElem hlt] at hj
    cases hj
    rw [Addr.add_lit]
    exact h2 j _ (List.getElem?_eq_getElem hlt)
set_option maxRecDepth 100000 in
set_option maxHeartbeats 16000000 in
theorem parts_any (L : List Nd) (gp op cp : Nat) (hL : L.length ≤ 2048) (he : ∀ j, j < L.length → T.er L j = 0) (w : World) (hp : T.NdL w gp op L) (lp : gp < w.heap.size) :
    Calls Tryd.prog 19 #[.slice (some ⟨gp, op, none⟩) L.length cp] w fun e w' => (∃ g, e = .returned (.slice (some ⟨g, 0, none⟩) L.length L.length) ∧ PtR w' w.heap.size g L) ∧ Below w.heap.size w w' := by
  obtain ⟨i0, hinf, hz0, hz1, hz2⟩ := T.info_parts T.Tryd.info3
  have hmk := make90 L.length hL
  have HP := (show Hid (T.NdL w gp op L) from hp)
  have HA := (show Hid (AtP L w (w.alloc (.cells (madeCells #[.slice none 0 0] L.length) 76)) 0 0 w.heap.size (.slice none 0 0)) from ⟨World.ownsRow_nil _ _ _ _, ⟨_, heap_alloc_new w _, size_madeCells _ _, fun j q => by omega⟩, by simp [Value.ownBlock], Nat.le_refl _, below_box _ _⟩)
  have HG := (show Hid (∀ k, k < L.length → ∃ n, L[k]? = some n ∧ T.ErOk L k n) from fun k hk => ⟨_, List.getElem?_eq_getElem hk, T.er_ok (List.getElem?_eq_getElem hk) (he k hk)⟩)
  have HE := (show Hid (∀ j, j < L.length → T.er L j = 0) from he)
  clear hp he
  go_enter Tryd.func19, Tryd.ntmps19
  go_wp2_with fail
  clear hmk
  go_loopw [4, 13] (fun v t wr => ∃ k : Nat, k ≤ L.length ∧ t = .int .i64 k ∧ Hid (AtP L w wr k k w.heap.size v)) (fun _ t _ => L.length - (intOf t).toNat)
  case atStart => exact ⟨0, by omega, by go_num, HA⟩
  case round =>
    obtain ⟨k, hk, rfl, HW⟩ := hrel
    clear HA
    by_cases hlt : k < L.length
    · obtain ⟨n, hn, hok⟩ := HG.out k hlt
      have HN := (show Hid (L[k]? = some n) from hn)
      have HAr : Hid (∀ w, Calls Tryd.prog 27 #[.int .i64 n.op] w fun e w' => e = .returned (.int .i64 (T.arN n.op)) ∧ w' = w) := fun w => by rw [T.arN_of hok.al]; exact T.arity_any n.op w
      have har := hok.ar
      have h2 := T.arN_le n.op
      obtain ⟨c0, c1, c2, c3, c4, c5, c6⟩ := (HP.out.same (HW.out.b.block gp lp)) k n hn
      have z0 : (0 : Int) ≤ (k : Int) := by omega
      have z1 : (k : Int) < (L.length : Int) := by omega
      have HW1 := (show Hid (AtP L w (wr.alloc (T.ndO n)) k k w.heap.size _) from HW.out.later (below_box wr (T.ndO n)))
      have HBox := (show Hid (T.NB (wr.alloc (T.ndO n)) wr.heap.size 0 n) from T.nb_new wr n)
      have hKd := kds_run hn (fun j hj => HE.out j (by omega))
      have hop := T.op_of hn
      have hrun := T.run_succ L k
      rw [hop] at hrun
      have hrl := T.run_len L k
      obtain ⟨A, cA, hv, hAo⟩ : ∃ A c, u4 = .slice A (T.run L k).length c ∧ (A = none ∧ T.run L k = [] ∧ c = 0 ∨ ∃ g, A = some ⟨g, 0, none⟩ ∧ g < wr.heap.size ∧ w.heap.size ≤ g ∧ (T.run L k).length ≤ c) := by
        rcases HW.out.o.2 with ⟨q1, q2⟩ | ⟨g, cap, cur, q1, q2, q3, q4, _⟩
        · exact ⟨none, 0, by rw [q1, q2], .inl ⟨rfl, List.eq_nil_of_length_eq_zero q2, rfl⟩⟩
        · exact ⟨_, cap, q1, .inr ⟨g, rfl, (Array.getElem?_eq_some_iff.1 q3).1, q2, q4⟩⟩
      subst hv
      clear hn hok HW HG
      go_wp2_with fail
      refine (HAr.out _).mono ?_
      rintro e w1 ⟨rfl, rfl⟩
      clear HAr c0 c1 c2 c3 c4 c5 c6
      obtain ⟨r, hr⟩ : ∃ r, r + T.arN n.op = (T.run L k).length := ⟨_, Nat.sub_add_cancel har⟩
      have hsub : ((T.run L k).length : Int) - (T.arN n.op : Int) = (r : Int) := by omega
      have hmr : (T.run L k).length - r = T.arN n.op := by omega
      have zr : (r : Int) ≤ ((T.run L k).length : Int) := by omega
      have hR2 : RdI (wr.alloc (T.ndO n)) (if cA = r then A else Option.map (fun x => x.add r) A) (kds L k) := by
        intro hx0
        have ha0 : 0 < T.arN n.op := by
          have := kds_len L k
          rw [hop] at this
          rw [← this]
          exact List.length_pos_iff.2 hx0
        rcases hAo with ⟨q1, q2, q3⟩ | ⟨g, q1, q2, q3, q4⟩
        · rw [q2] at hr; simp at hr; omega
        · rw [if_neg (by omega), q1]
          refine ⟨g, r, by rw [Option.map_some, Addr.add_lit, Nat.zero_add], Nat.lt_of_lt_of_le q2 (below_box _ _).size, fun j x hj => ?_⟩
          have hcl := HW1.out.o.cells (g := g) (by rw [q1]; rfl)
          have := hcl (r + j) (.int .i64 x) (by
            unfold T.lastc
            rw [hKd, List.getElem?_map] at hj
            have e := T.rev_drop (T.run L k) (T.arN n.op) har
            rw [show (T.run L k).length - T.arN n.op = r from by omega] at e
            rw [← e, List.getElem?_drop] at hj
            rw [List.getElem?_map]
            cases hz : (T.run L k).reverse[r + j]? with
            | none => rw [hz] at hj; cases hj
            | some p =>
              rw [hz] at hj
              simp only [Option.map_some, Option.some.injEq] at hj
              rw [Option.map_some, hj])
          rwa [Addr.add_lit, Nat.zero_add] at this
      obtain ⟨A2, hA2⟩ : ∃ A2, (if cA = r then A else Option.map (fun x => x.add r) A) = A2 := ⟨_, rfl⟩
      rw [hA2] at hR2
      have HCl : Hid (∀ _ : Unit, Calls Tryd.prog 29 #[.slice A2 (T.arN n.op) (cA - r)] (wr.alloc (T.ndO n)) fun e w' => (∃ u, e = .returned u ∧ KdE w' (wr.alloc (T.ndO n)).heap.size none u (kds L k)) ∧ Below (wr.alloc (T.ndO n)).heap.size (wr.alloc (T.ndO n)) w') := fun _ => by
        have h := clone_any A2 (cA - r) (kds L k) (by rw [kds_len, hop]; exact h2) _ hR2
        rw [kds_len, hop] at h
        exact h
      clear hR2
      have HAo := (show Hid _ from hAo)
      have HRl := (show Hid ((T.run L k).length ≤ 2048 ∧ r + T.arN n.op = (T.run L k).length) from ⟨by omega, hr⟩)
      have HRu := (show Hid (T.run L (k + 1) = T.pt L k :: (T.run L k).drop (T.arN n.op)) from hrun)
      have hm2 : (T.run L k).length ≤ 2048 := by omega
      have hr2 : r ≤ 2048 := by omega
      have HPt := (show Hid ((T.pt L k).2.1 = k) from T.mk_last _ _ _ _)
      clear hAo hr har hKd hop hrun hrl
      generalize (T.run L k).length = m at *
      go_wp2_with fail
      refine (HCl.out ()).mono ?_
      rintro e w2 ⟨⟨u, rfl, hu⟩, b2⟩
      clear HCl hA2
      obtain ⟨A3, k3, c3, hu3⟩ : ∃ A m c, u = .slice A m c := by obtain ⟨A, c, e, _⟩ := hu; exact ⟨A, _, c, e⟩
      subst hu3
      have HW2 := (show Hid (AtP L w w2 k k w.heap.size (.slice A m cA)) from HW1.out.later b2)
      have hfar : ∀ g, (Value.slice A m cA).ownBlock = some g → g < wr.heap.size := fun g hg => by
        rcases HAo.out with ⟨q1, q2, q3⟩ | ⟨g', q1, q2, q3, q4⟩
        · rw [q1] at hg; cases hg
        · rw [q1] at hg; cases hg; exact q2
      have hsz1 : wr.heap.size ≤ (wr.alloc (T.ndO n)).heap.size := (below_box _ _).size
      have hwl := HW1.out.b.size
      have HW3 := (show Hid (AtP L w (w2.setCell ⟨w.heap.size, k, none⟩ (.slice A3 k3 c3)) k (k + 1) w.heap.size (.slice A m cA)) from HW2.out.put hlt
        (hu.mono hwl fun g hg e => by have := hfar g e; omega)
        (hu.mono hwl fun g hg e => by have e2 : w.heap.size = g := Option.some.inj e; have := HW1.out.lt; omega))
      obtain ⟨cur, d1, d2, _⟩ := HW2.out.p
      obtain ⟨x, hx⟩ : ∃ x, cur[k]? = some x := ⟨_, Array.getElem?_eq_getElem (by omega)⟩
      have e0 : w2.cell? ⟨w.heap.size, k, none⟩ = some x := (Lib.cell_of_heap d1 k).trans hx
      have e1 : w2.frozen? ⟨w.heap.size, k, none⟩ = false := Lib.frozen_of_heap d1 k
      have hs2 := HW2.out.b.size
      clear HW1 HW2 hu b2 hfar hsz1 hwl d1 d2 hx HBox
      have zc : (r : Int) ≤ (cA : Int) := by
        have := HRl.out
        rcases HAo.out with ⟨q1, q2, q3⟩ | ⟨g, q1, q2, q3, q4⟩
        · have h3 := HW3.out.o.1
          rcases HW3.out.o.2 with ⟨p1, p2⟩ | ⟨g, cap, cur, p1, _⟩
          · injection p1 with p1 p3 p4; omega
          · rw [q1] at p1; injection p1 with p1; cases p1
        · omega
      have HOc : Hid ((w2.setCell ⟨w.heap.size, k, none⟩ (.slice A3 k3 c3)).ownsRow w.heap.size 3 1 (.slice A r cA) r (T.lastc ((T.run L k).drop (T.arN n.op)).reverse)) := by
        show (w2.setCell ⟨w.heap.size, k, none⟩ (.slice A3 k3 c3)).ownsRow _ _ _ _ _ _
        have ho := HW3.out.o
        have hrl := HRl.out
        have hml : (T.run L k).length = m := by
          rcases ho.2 with ⟨p1, p2⟩ | ⟨g, cap, cur, p1, _⟩
          · injection p1 with _ p1; omega
          · injection p1 with _ p1; exact p1.symm
        rw [hml] at ho
        have hre := T.rev_take (T.run L k) (T.arN n.op) (by omega)
        rw [hml, show m - T.arN n.op = r from by omega] at hre
        rcases HAo.out with ⟨q1, q2, q3⟩ | ⟨g, q1, q2, q3, q4⟩
        · have hm0 : m = 0 := by rw [q2] at hml; simpa using hml.symm
          have hr0 : r = 0 := by omega
          rw [q1, q2, q3, hr0]
          exact ⟨by simp [T.lastc], .inl ⟨rfl, rfl⟩⟩
        · rw [q1] at ho ⊢
          have := T.own_cut ho (m := r) (by omega)
          rw [Nat.mul_one] at this
          unfold T.lastc at this
          rw [← List.map_take, hre] at this
          exact this
      have hO := HOc.out
      have hra : (if cA = 0 then A else Option.map (fun x => x.add 0) A) = A := by
        rcases HAo.out with ⟨q1, q2, q3⟩ | ⟨g, q1, q2, q3, q4⟩
        · rw [q1]; split <;> rfl
        · rw [q1]; split
          · rfl
          · rw [Option.map_some, Addr.add_lit]
      have hsS : (w2.setCell ⟨w.heap.size, k, none⟩ (.slice A3 k3 c3)).heap.size = w2.heap.size := World.size_setCell _ _ _
      go_wp2_with (at_builtin; refine wpList_append_lies _ rfl _ _ 76 rfl w.heap.size 3 i0 (.int .i64 0) 1 8 Tryd.underlying76 hinf hz0 hz1 hz2 rfl (by decide) _ _ _ rfl (hO.alloc _) ⟨w2.heap.size, 0, none⟩ 1 1 [.int .i64 k] rfl rfl ?c1 (fun u hu => by simp only [List.mem_singleton] at hu; subst hu; rfl) (by decide) ?c3 ?c4 ?c5 (w2.heap.size + 1) (by rw [World.size_alloc, hsS]) ?_)
      case c1 =>
        have h := heap_alloc_new (w2.setCell ⟨w.heap.size, k, none⟩ (.slice A3 k3 c3)) (.cells #[.int .i64 k] 3)
        rw [hsS] at h
        exact World.news_of_block (cs := #[.int .i64 k]) (t := 3) (fr := (0, 0)) h
      case c3 => unfold maxLen; omega
      case c4 => omega
      case c5 => rw [World.size_alloc, hsS]; omega
      intro g cap w5 hown1 hgrow hat hltg
      have HW5 := (show Hid (AtP L w w5 (k + 1) (k + 1) w.heap.size (.slice (some ⟨g, 0, none⟩) (r + 1) cap)) from by
        have hob : (Value.slice A r cA).ownBlock = (Value.slice A m cA).ownBlock := by cases A <;> rfl
        rw [hob] at hgrow hat
        have hrl := HRl.out
        have hw3 := HW3.out
        have hown3 : ∀ j, (Value.slice A m cA).ownBlock = some j → w.heap.size ≤ j ∧ j < w2.heap.size := fun j e => by have := hw3.o.lt j e; rw [hsS] at this; exact this
        have hblk : ∀ b, b < w2.heap.size → (Value.slice A m cA).ownBlock ≠ some b → w5.heap[b]? = (w2.setCell ⟨w.heap.size, k, none⟩ (.slice A3 k3 c3)).heap[b]? := fun b hb hne => by
          rw [hgrow.block b (by rw [World.size_alloc, hsS]; omega) (fun e => hne e.symm)]
          exact (below_box _ _).block b (by rw [hsS]; exact hb)
        obtain ⟨cur, h2, h3, h4⟩ := hw3.p
        have hgl := hw3.lt
        rw [hsS] at hgl
        have hml : (T.run L k).length = m := by
          rcases hw3.o.2 with ⟨p1, p2⟩ | ⟨g, cap, cur, p1, _⟩
          · injection p1 with _ p1; omega
          · injection p1 with _ p1; exact p1.symm
        refine ⟨?_, ⟨cur, (hblk _ hgl hw3.n).trans h2, h3, fun j hj => ?_⟩, ?_, Nat.le_refl _, ?_⟩
        · have e1 : (T.run L (k + 1)).length = r + 1 := by rw [HRu.out, List.length_cons, List.length_drop]; omega
          have e2 : T.lastc (T.run L (k + 1)).reverse = T.lastc ((T.run L k).drop (T.arN n.op)).reverse ++ [.int .i64 k] := by
            rw [HRu.out, List.reverse_cons]
            unfold T.lastc
            rw [List.map_append]
            simp [HPt.out]
          rw [e1, e2]
          exact hown1
        · obtain ⟨u, p1, p2⟩ := h4 j hj
          refine ⟨u, p1, p2.keep fun b _ hbl hne => ⟨hblk b (by rw [hsS] at hbl; exact hbl) hne, fun e => ?_⟩⟩
          have e2 : g = b := Option.some.inj e
          subst e2
          rcases hat with q | q
          · exact hne q
          · rw [hsS] at hbl; omega
        · intro e
          have e2 : g = w.heap.size := Option.some.inj e
          subst e2
          rcases hat with q | q
          · exact hw3.n q
          · omega
        · exact (hw3.b.alloc hw3.b.size _).grown hgrow (by rw [World.size_alloc]; have := hw3.b.size; omega) (fun j e => (hown3 j e).1))
      clear hown1 hgrow hat hltg hO hra HOc HW3 HAo HRl HRu HPt e0 e1 zc
      go_wp2_with fail
      go_roundw
      case rel => exact ⟨k + 1, by omega, by go_num, HW5⟩
      case measure => simp [intOf]; omega
    · obtain rfl : k = L.length := by omega
      clear HG
      have HQ := (show Hid (PtR wr w.heap.size w.heap.size L ∧ Below w.heap.size w wr) from by
        obtain ⟨_, ⟨cur, h2, h3, h4⟩, _, _, hb⟩ := HW.out
        refine ⟨⟨Nat.le_refl _, cur, h2, fun j hj => ?_⟩, hb⟩
        obtain ⟨u, q1, q2⟩ := h4 j hj
        exact ⟨u, q1, q2.keep fun g _ _ _ => ⟨rfl, by simp⟩⟩)
      clear HW HP HE
      go_wp2_with fail
      go_ret
      exact ⟨⟨_, rfl, HQ.out.1⟩, HQ.out.2⟩
end Go.Proofs.YtnpifgcgjgddoaaDoor.N

namespace Go.Proofs.YtnpifgcgjgddoaaDoor.N
open Go.RowKit
set_option maxRecDepth 100000 in
set_option maxHeartbeats 2000000 in
theorem holds_any (op : Int) (w : World) : Calls Tryd.prog 32 #[.int .i64 op] w fun e w' => e = .returned (.int .i64 (hld op)) ∧ w' = w := by
  by_cases h8 : op = 8
  · subst h8
    go_enter Tryd.func32, Tryd.ntmps32
    go_wp2
    go_ret
    exact ⟨rfl, rfl⟩
  by_cases h7 : op = 7
  · subst h7
    go_enter Tryd.func32, Tryd.ntmps32
    go_wp2
    go_ret
    exact ⟨rfl, rfl⟩
  by_cases h12 : op = 12
  · subst h12
    go_enter Tryd.func32, Tryd.ntmps32
    go_wp2
    go_ret
    exact ⟨rfl, rfl⟩
  by_cases h13 : op = 13
  · subst h13
    go_enter Tryd.func32, Tryd.ntmps32
    go_wp2
    go_ret
    exact ⟨rfl, rfl⟩
  by_cases h9 : op = 9
  · subst h9
    go_enter Tryd.func32, Tryd.ntmps32
    go_wp2
    go_ret
    exact ⟨rfl, rfl⟩
  by_cases h10 : op = 10
  · subst h10
    go_enter Tryd.func32, Tryd.ntmps32
    go_wp2
    go_ret
    exact ⟨rfl, rfl⟩
  by_cases h11 : op = 11
  · subst h11
    go_enter Tryd.func32, Tryd.ntmps32
    go_wp2
    go_ret
    exact ⟨rfl, rfl⟩
  by_cases h14 : op = 14
  · subst h14
    go_enter Tryd.func32, Tryd.ntmps32
    go_wp2
    go_ret
    exact ⟨rfl, rfl⟩
  by_cases h15 : op = 15
  · subst h15
    go_enter Tryd.func32, Tryd.ntmps32
    go_wp2
    go_ret
    exact ⟨rfl, rfl⟩
  by_cases h16 : op = 16
  · subst h16
    go_enter Tryd.func32, Tryd.ntmps32
    go_wp2
    go_ret
    exact ⟨rfl, rfl⟩
  by_cases h22 : op = 22
  · subst h22
    go_enter Tryd.func32, Tryd.ntmps32
    go_wp2
    go_ret
    exact ⟨rfl, rfl⟩
  by_cases h23 : op = 23
  · subst h23
    go_enter Tryd.func32, Tryd.ntmps32
    go_wp2
    go_ret
    exact ⟨rfl, rfl⟩
  have t8 : (op == 8) = false := beq_eq_false_iff_ne.2 h8
  have t7 : (op == 7) = false := beq_eq_false_iff_ne.2 h7
  have t12 : (op == 12) = false := beq_eq_false_iff_ne.2 h12
  have t13 : (op == 13) = false := beq_eq_false_iff_ne.2 h13
  have t9 : (op == 9) = false := beq_eq_false_iff_ne.2 h9
  have t10 : (op == 10) = false := beq_eq_false_iff_ne.2 h10
  have t11 : (op == 11) = false := beq_eq_false_iff_ne.2 h11
  have t14 : (op == 14) = false := beq_eq_false_iff_ne.2 h14
  have t15 : (op == 15) = false := beq_eq_false_iff_ne.2 h15
  have t16 : (op == 16) = false := beq_eq_false_iff_ne.2 h16
  have t22 : (op == 22) = false := beq_eq_false_iff_ne.2 h22
  have t23 : (op == 23) = false := beq_eq_false_iff_ne.2 h23
  have HE : Hid (((hld op : Nat) : Int) = 4) := by
    show ((hld op : Nat) : Int) = 4
    unfold hld
    rw [if_neg h8, if_neg h7, if_neg (by rintro (q | q); exact h12 q; exact h13 q), if_neg (by rintro (q | q | q | q | q | q | q | q); exact h9 q; exact h10 q; exact h11 q; exact h14 q; exact h15 q; exact h16 q; exact h22 q; exact h23 q)]
    rfl
  clear h8 h7 h12 h13 h9 h10 h11 h14 h15 h16 h22 h23
  go_enter Tryd.func32, Tryd.ntmps32
  go_wp2
  go_ret
  exact ⟨by rw [HE.out]; rfl, rfl⟩
theorem hld_le (op : Int) : hld op ≤ 4 := by
  unfold hld
  split
  · omega
  split
  · omega
  split
  · omega
  split <;> omega
set_option maxRecDepth 100000 in
set_option maxHeartbeats 2000000 in
theorem asks_any (op : Int) (i : Nat) (hi : i ≤ 2) (w : World) : Calls Tryd.prog 42 #[.int .i64 op, .int .i64 i] w fun e w' => e = .returned (.int .i64 (asK op i)) ∧ w' = w := by
  have HH : Hid (∀ w, Calls Tryd.prog 32 #[.int .i64 op] w fun e w' => e = .returned (.int .i64 (hld op)) ∧ w' = w) := fun w => holds_any op w
  have hle := hld_le op
  by_cases h : hld op = 4
  · have t : (((hld op : Nat) : Int) == 4) = true := beq_iff_eq.2 (by omega)
    have HE : Hid (asK op i = 0) := by show asK op i = 0; unfold asK; rw [if_pos h]
    clear h hle
    go_enter Tryd.func42, Tryd.ntmps42
    go_wp2_with fail
    refine (HH.out _).mono ?_
    rintro e w1 ⟨rfl, rfl⟩
    go_wp2_with fail
    go_ret
    exact ⟨by rw [HE.out]; rfl, rfl⟩
  · have t : (((hld op : Nat) : Int) == 4) = false := beq_eq_false_iff_ne.2 (by omega)
    have HE : Hid (asK op i = hld op + i) := by show asK op i = _; unfold asK; rw [if_neg h]
    clear h
    generalize hld op = m at *
    go_enter Tryd.func42, Tryd.ntmps42
    go_wp2_with fail
    refine (HH.out _).mono ?_
    rintro e w1 ⟨rfl, rfl⟩
    go_wp2_with fail
    refine (HH.out _).mono ?_
    rintro e w1 ⟨rfl, rfl⟩
    go_wp2_with fail
    go_ret
    exact ⟨by rw [HE.out]; go_num, rfl⟩
set_option maxRecDepth 100000 in
set_option maxHeartbeats 2000000 in
theorem fo_4 (nn : Int) (tx : ByteArray) (a b c d : Int) (hs : tx.size ≤ 255) (w : World) : Calls Tryd.prog 31 #[(.agg #[.int .i64 4, .int .i64 nn, .string tx, .int .u64 a, .int .u64 b, .int .u64 c, .int .u64 d])] w fun e w' => e = .returned (.string (Q.asText (Q.qT tx))) ∧ Below w.heap.size w w' := by
  have HQ : Hid (∀ w, Calls Tryd.prog 38 #[.string tx] w fun e w' => e = .returned (.tuple #[.string (Q.asText (Q.qT tx)), .int .i64 0]) ∧ Below w.heap.size w w') := fun w => by
    have h := Q.quote_any tx w
    rw [Q.quV_fits (by have := qT_len tx; omega)] at h
    exact h
  have HB := (show Hid _ from (below_box w (.cells #[.int .i64 4, .int .i64 nn, .string tx, .int .u64 a, .int .u64 b, .int .u64 c, .int .u64 d] 33)))
  clear hs
  go_enter Tryd.func31, Tryd.ntmps31
  go_wp2_with fail
  refine (HQ.out _).mono ?_
  rintro e w1 ⟨rfl, b1⟩
  have HB2 := (show Hid _ from HB.out.trans (b1.mono HB.out.size))
  clear b1 HB
  go_wp2_with fail
  go_ret
  exact ⟨rfl, HB2.out⟩
set_option maxRecDepth 100000 in
set_option maxHeartbeats 2000000 in
theorem fo_22 (nn : Int) (tx : ByteArray) (a b c d : Int) (hs : tx.size ≤ 255) (w : World) : Calls Tryd.prog 31 #[(.agg #[.int .i64 22, .int .i64 nn, .string tx, .int .u64 a, .int .u64 b, .int .u64 c, .int .u64 d])] w fun e w' => e = .returned (.string (Q.asText (Q.qT tx))) ∧ Below w.heap.size w w' := by
  have HQ : Hid (∀ w, Calls Tryd.prog 38 #[.string tx] w fun e w' => e = .returned (.tuple #[.string (Q.asText (Q.qT tx)), .int .i64 0]) ∧ Below w.heap.size w w') := fun w => by
    have h := Q.quote_any tx w
    rw [Q.quV_fits (by have := qT_len tx; omega)] at h
    exact h
  have HB := (show Hid _ from (below_box w (.cells #[.int .i64 22, .int .i64 nn, .string tx, .int .u64 a, .int .u64 b, .int .u64 c, .int .u64 d] 33)))
  clear hs
  go_enter Tryd.func31, Tryd.ntmps31
  go_wp2_with fail
  refine (HQ.out _).mono ?_
  rintro e w1 ⟨rfl, b1⟩
  have HB2 := (show Hid _ from HB.out.trans (b1.mono HB.out.size))
  clear b1 HB
  go_wp2_with fail
  go_ret
  exact ⟨rfl, HB2.out⟩
set_option maxRecDepth 100000 in
set_option maxHeartbeats 2000000 in
theorem fo_5 (nn : Int) (tx : ByteArray) (a b c d : Int) (ha : 0 ≤ a ∧ a < 18446744073709551616) (hb : 0 ≤ b ∧ b < 18446744073709551616) (hc : 0 ≤ c ∧ c < 18446744073709551616) (hd : 0 ≤ d ∧ d < 18446744073709551616) (w : World) : Calls Tryd.prog 31 #[(.agg #[.int .i64 5, .int .i64 nn, .string tx, .int .u64 a, .int .u64 b, .int .u64 c, .int .u64 d])] w fun e w' => e = .returned (.string (txO (shT (mkS a b c d)))) ∧ Below w.heap.size w w' := by
  have HQ : Hid (∀ w, Calls Tryd.prog 39 #[.agg #[.int .u64 a, .int .u64 b, .int .u64 c, .int .u64 d]] w fun e w' => e = .returned (.string (txO (shT (mkS a b c d)))) ∧ Below w.heap.size w w') := fun w => by
    have h := show_any (mkS a b c d) w
    obtain ⟨e0, e1, e2, e3⟩ := mkS_wd a b c d ha hb hc hd
    unfold sv at h
    rw [e0, e1, e2, e3] at h
    exact h
  have HB := (show Hid _ from (below_box w (.cells #[.int .i64 5, .int .i64 nn, .string tx, .int .u64 a, .int .u64 b, .int .u64 c, .int .u64 d] 33)))
  clear ha hb hc hd
  go_enter Tryd.func31, Tryd.ntmps31
  go_wp2_with fail
  refine (HQ.out _).mono ?_
  rintro e w1 ⟨rfl, b1⟩
  have HB2 := (show Hid _ from HB.out.trans (b1.mono HB.out.size))
  clear b1 HB
  go_wp2_with fail
  go_ret
  exact ⟨rfl, HB2.out⟩
set_option maxRecDepth 100000 in
set_option maxHeartbeats 2000000 in
theorem fo_6 (nn : Int) (tx : ByteArray) (a b c d : Int) (w : World) : Calls Tryd.prog 31 #[(.agg #[.int .i64 6, .int .i64 nn, .string tx, .int .u64 a, .int .u64 b, .int .u64 c, .int .u64 d])] w fun e w' => e = .returned (.string tx) ∧ Below w.heap.size w w' := by
  have HB := (show Hid _ from (below_box w (.cells #[.int .i64 6, .int .i64 nn, .string tx, .int .u64 a, .int .u64 b, .int .u64 c, .int .u64 d] 33)))
  go_enter Tryd.func31, Tryd.ntmps31
  go_wp2_with fail
  go_ret
  exact ⟨rfl, HB.out⟩
set_option maxRecDepth 100000 in
set_option maxHeartbeats 2000000 in
theorem fo_19 (nn : Int) (tx : ByteArray) (a b c d : Int) (w : World) : Calls Tryd.prog 31 #[(.agg #[.int .i64 19, .int .i64 nn, .string tx, .int .u64 a, .int .u64 b, .int .u64 c, .int .u64 d])] w fun e w' => e = .returned (.string tx) ∧ Below w.heap.size w w' := by
  have HB := (show Hid _ from (below_box w (.cells #[.int .i64 19, .int .i64 nn, .string tx, .int .u64 a, .int .u64 b, .int .u64 c, .int .u64 d] 33)))
  go_enter Tryd.func31, Tryd.ntmps31
  go_wp2_with fail
  go_ret
  exact ⟨rfl, HB.out⟩
theorem dec_dg : ∀ n : Nat, n < 100 → (⟨(Lib.decDigits n).toArray⟩ : ByteArray) = txO (dgT 10 n) := by
  intro n hn
  have : ∀ k : Fin 100, Lib.decDigits k.val = dgT 10 k.val := by decide +kernel
  show (⟨(Lib.decDigits n).toArray⟩ : ByteArray) = ⟨(dgT 10 n).toArray⟩
  rw [this ⟨n, hn⟩]
set_option maxRecDepth 100000 in
set_option maxHeartbeats 2000000 in
theorem fo_14 (nn : Nat) (tx : ByteArray) (a b c d : Int) (hn : nn < 100) (w : World) : Calls Tryd.prog 31 #[(.agg #[.int .i64 14, .int .i64 nn, .string tx, .int .u64 a, .int .u64 b, .int .u64 c, .int .u64 d])] w fun e w' => e = .returned (.string (txO (dgT 10 nn))) ∧ Below w.heap.size w w' := by
  have HQ : Hid (∀ w, Calls Tryd.prog 40 #[.int .i64 nn] w fun e w' => e = .returned (.string (txO (dgT 10 nn))) ∧ w' = w) := fun w => by
    have h := Tryd.strconv_Itoa_small nn hn w
    rw [dec_dg nn hn] at h
    exact h
  have HB := (show Hid _ from (below_box w (.cells #[.int .i64 14, .int .i64 nn, .string tx, .int .u64 a, .int .u64 b, .int .u64 c, .int .u64 d] 33)))
  clear hn
  go_enter Tryd.func31, Tryd.ntmps31
  go_wp2_with fail
  refine (HQ.out _).mono ?_
  rintro e w1 ⟨rfl, rfl⟩
  go_wp2_with fail
  go_ret
  exact ⟨rfl, HB.out⟩
set_option maxRecDepth 100000 in
set_option maxHeartbeats 2000000 in
theorem fo_15 (nn : Nat) (tx : ByteArray) (a b c d : Int) (hn : nn < 100) (w : World) : Calls Tryd.prog 31 #[(.agg #[.int .i64 15, .int .i64 nn, .string tx, .int .u64 a, .int .u64 b, .int .u64 c, .int .u64 d])] w fun e w' => e = .returned (.string (txO (dgT 10 nn))) ∧ Below w.heap.size w w' := by
  have HQ : Hid (∀ w, Calls Tryd.prog 40 #[.int .i64 nn] w fun e w' => e = .returned (.string (txO (dgT 10 nn))) ∧ w' = w) := fun w => by
    have h := Tryd.strconv_Itoa_small nn hn w
    rw [dec_dg nn hn] at h
    exact h
  have HB := (show Hid _ from (below_box w (.cells #[.int .i64 15, .int .i64 nn, .string tx, .int .u64 a, .int .u64 b, .int .u64 c, .int .u64 d] 33)))
  clear hn
  go_enter Tryd.func31, Tryd.ntmps31
  go_wp2_with fail
  refine (HQ.out _).mono ?_
  rintro e w1 ⟨rfl, rfl⟩
  go_wp2_with fail
  go_ret
  exact ⟨rfl, HB.out⟩
set_option maxRecDepth 100000 in
set_option maxHeartbeats 2000000 in
theorem fo_16 (nn : Nat) (tx : ByteArray) (a b c d : Int) (hn : nn < 100) (w : World) : Calls Tryd.prog 31 #[(.agg #[.int .i64 16, .int .i64 nn, .string tx, .int .u64 a, .int .u64 b, .int .u64 c, .int .u64 d])] w fun e w' => e = .returned (.string (txO (dgT 10 nn))) ∧ Below w.heap.size w w' := by
  have HQ : Hid (∀ w, Calls Tryd.prog 40 #[.int .i64 nn] w fun e w' => e = .returned (.string (txO (dgT 10 nn))) ∧ w' = w) := fun w => by
    have h := Tryd.strconv_Itoa_small nn hn w
    rw [dec_dg nn hn] at h
    exact h
  have HB := (show Hid _ from (below_box w (.cells #[.int .i64 16, .int .i64 nn, .string tx, .int .u64 a, .int .u64 b, .int .u64 c, .int .u64 d] 33)))
  clear hn
  go_enter Tryd.func31, Tryd.ntmps31
  go_wp2_with fail
  refine (HQ.out _).mono ?_
  rintro e w1 ⟨rfl, rfl⟩
  go_wp2_with fail
  go_ret
  exact ⟨rfl, HB.out⟩
set_option maxRecDepth 100000 in
set_option maxHeartbeats 2000000 in
theorem fo_23 (nn : Nat) (tx : ByteArray) (a b c d : Int) (hn : nn < 100) (w : World) : Calls Tryd.prog 31 #[(.agg #[.int .i64 23, .int .i64 nn, .string tx, .int .u64 a, .int .u64 b, .int .u64 c, .int .u64 d])] w fun e w' => e = .returned (.string (txO (dgT 10 nn))) ∧ Below w.heap.size w w' := by
  have HQ : Hid (∀ w, Calls Tryd.prog 40 #[.int .i64 nn] w fun e w' => e = .returned (.string (txO (dgT 10 nn))) ∧ w' = w) := fun w => by
    have h := Tryd.strconv_Itoa_small nn hn w
    rw [dec_dg nn hn] at h
    exact h
  have HB := (show Hid _ from (below_box w (.cells #[.int .i64 23, .int .i64 nn, .string tx, .int .u64 a, .int .u64 b, .int .u64 c, .int .u64 d] 33)))
  clear hn
  go_enter Tryd.func31, Tryd.ntmps31
  go_wp2_with fail
  refine (HQ.out _).mono ?_
  rintro e w1 ⟨rfl, rfl⟩
  go_wp2_with fail
  go_ret
  exact ⟨rfl, HB.out⟩
set_option maxRecDepth 100000 in
set_option maxHeartbeats 2000000 in
theorem fo_no (op nn : Int) (tx : ByteArray) (a b c d : Int) (h4 : ¬ op = 4) (h22 : ¬ op = 22) (h5 : ¬ op = 5) (h6 : ¬ op = 6) (h19 : ¬ op = 19) (h14 : ¬ op = 14) (h15 : ¬ op = 15) (h16 : ¬ op = 16) (h23 : ¬ op = 23) (w : World) : Calls Tryd.prog 31 #[(.agg #[.int .i64 op, .int .i64 nn, .string tx, .int .u64 a, .int .u64 b, .int .u64 c, .int .u64 d])] w fun e w' => e = .returned (.string ⟨#[]⟩) ∧ Below w.heap.size w w' := by
  have t4 : (op == 4) = false := beq_eq_false_iff_ne.2 h4
  have t22 : (op == 22) = false := beq_eq_false_iff_ne.2 h22
  have t5 : (op == 5) = false := beq_eq_false_iff_ne.2 h5
  have t6 : (op == 6) = false := beq_eq_false_iff_ne.2 h6
  have t19 : (op == 19) = false := beq_eq_false_iff_ne.2 h19
  have t14 : (op == 14) = false := beq_eq_false_iff_ne.2 h14
  have t15 : (op == 15) = false := beq_eq_false_iff_ne.2 h15
  have t16 : (op == 16) = false := beq_eq_false_iff_ne.2 h16
  have t23 : (op == 23) = false := beq_eq_false_iff_ne.2 h23
  have HB := (show Hid _ from (below_box w (.cells #[.int .i64 op, .int .i64 nn, .string tx, .int .u64 a, .int .u64 b, .int .u64 c, .int .u64 d] 33)))
  clear h4 h22 h5 h6 h19 h14 h15 h16 h23
  go_enter Tryd.func31, Tryd.ntmps31
  go_wp2_with fail
  go_ret
  exact ⟨rfl, HB.out⟩
theorem nu_of {n : Nd} (h : T.alE n = 0) (ho : n.op = 14 ∨ n.op = 15 ∨ n.op = 16 ∨ n.op = 23) : 0 ≤ n.nn ∧ n.nn ≤ 50 := by
  have := (al_fd h).2.2.1
  unfold T.nuF at this
  rw [if_pos ho] at this
  exact of_decide_eq_true this
theorem field_any (n : Nd) (ha : T.alE n = 0) (hw : NdW n) (w : World) : Calls Tryd.prog 31 #[T.ndG n] w fun e w' => e = .returned (.string (fldX n)) ∧ Below w.heap.size w w' := by
  by_cases o4 : n.op = 4
  · have hs : n.tx.size ≤ 255 := (tx4 ha o4).2
    rw [fdx4 o4]
    have h := fo_4 n.nn n.tx n.s0 n.s1 n.s2 n.s3 hs w
    rw [← o4] at h
    exact h
  by_cases o22 : n.op = 22
  · have hs : n.tx.size ≤ 255 := tx22 ha o22
    rw [fdx22 o22]
    have h := fo_22 n.nn n.tx n.s0 n.s1 n.s2 n.s3 hs w
    rw [← o22] at h
    exact h
  by_cases o5 : n.op = 5
  · rw [fdx5 o5]
    have h := fo_5 n.nn n.tx n.s0 n.s1 n.s2 n.s3 hw.a hw.b hw.c hw.d w
    rw [← o5] at h
    exact h
  by_cases o6 : n.op = 6
  · rw [fdx6 o6]
    have h := fo_6 n.nn n.tx n.s0 n.s1 n.s2 n.s3 w
    rw [← o6] at h
    exact h
  by_cases o19 : n.op = 19
  · rw [fdx19 o19]
    have h := fo_19 n.nn n.tx n.s0 n.s1 n.s2 n.s3 w
    rw [← o19] at h
    exact h
  by_cases o14 : n.op = 14
  · rw [fdx14 o14]
    have hn := nu_of ha (by omega)
    have h := fo_14 n.nn.toNat n.tx n.s0 n.s1 n.s2 n.s3 (by omega) w
    rw [← o14, show ((n.nn.toNat : Nat) : Int) = n.nn from by omega] at h
    exact h
  by_cases o15 : n.op = 15
  · rw [fdx15 o15]
    have hn := nu_of ha (by omega)
    have h := fo_15 n.nn.toNat n.tx n.s0 n.s1 n.s2 n.s3 (by omega) w
    rw [← o15, show ((n.nn.toNat : Nat) : Int) = n.nn from by omega] at h
    exact h
  by_cases o16 : n.op = 16
  · rw [fdx16 o16]
    have hn := nu_of ha (by omega)
    have h := fo_16 n.nn.toNat n.tx n.s0 n.s1 n.s2 n.s3 (by omega) w
    rw [← o16, show ((n.nn.toNat : Nat) : Int) = n.nn from by omega] at h
    exact h
  by_cases o23 : n.op = 23
  · rw [fdx23 o23]
    have hn := nu_of ha (by omega)
    have h := fo_23 n.nn.toNat n.tx n.s0 n.s1 n.s2 n.s3 (by omega) w
    rw [← o23, show ((n.nn.toNat : Nat) : Int) = n.nn from by omega] at h
    exact h
  · have e : fldX n = ⟨#[]⟩ := by
      have : agT n = none := by
        unfold agT
        rw [if_neg (by omega), if_neg o5, if_neg o6, if_neg o19, if_neg (by omega)]
      unfold fldX
      rw [this]
    rw [e]
    exact fo_no n.op n.nn n.tx n.s0 n.s1 n.s2 n.s3 o4 o22 o5 o6 o19 o14 o15 o16 o23 w
end Go.Proofs.YtnpifgcgjgddoaaDoor.N
