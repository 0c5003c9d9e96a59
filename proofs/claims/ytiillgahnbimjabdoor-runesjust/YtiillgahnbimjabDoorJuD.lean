/- DERIVED. A list that comes in, put behind a list of the call's own; a byte within a span. -/
import Derived.Test.YtiillgahnbimjabDoorJuC
import Derived.Test.YtiillgahnbimjabDoorLnA
import Derived.Maps.AppendAt
import Derived.RegionTactic
import Derived.Laws.OwnMore
namespace Go.Proofs.YtiillgahnbimjabDoor
open Go.RowKit

theorem InI.below {W W' : World} {A : Option Addr} {c : Nat} {l : List Int} (h : InI W A c l) (hb : Below W.heap.size W W') : InI W' A c l := by
  rcases h with h | ⟨ad, rfl, hc⟩
  · exact .inl h
  · exact .inr ⟨ad, rfl, fun j u hj => (hb.cell (p := ad.add j) (World.block_lt_of_cell? W _ (hc j u hj))).trans (hc j u hj)⟩
theorem run_append_in (w : World) {B n c : Nat} {A : Option Addr} {l : List Int} {v : Value} {xs : List Value} (ty : TypeId) (h : w.ownsRow B 3 1 v n xs) (hx : InI w A c l) (hB : B ≤ w.heap.size) (hb : (n + l.length) * 8 ≤ 140737488355328) :
    ∃ v' w', (Builtin.append_ #[22, 22] ty #[v, .slice A l.length c]).run Tryd.prog w = .ok v' w' ∧ w'.ownsRow B 3 1 v' (n + l.length) (xs ++ inc l) ∧ w.grownBy w' v.ownBlock := by
  obtain ⟨i0, hinf, hz0, hz1, hz2⟩ := info_parts Tryd.info3
  rcases hx with ⟨rfl, rfl, rfl⟩ | ⟨ad, rfl, hc⟩
  · exact ⟨v, w, run_append_owned_none (P := Tryd.prog) w B 22 ty 3 i0 1 Tryd.underlying22 hinf v n xs h, by show w.ownsRow B 3 1 v n (xs ++ []); rw [List.append_nil]; exact h, World.grownBy.refl _ _⟩
  · obtain ⟨v', w', hr, ho, hg, _, _⟩ := run_append_own_at (P := Tryd.prog) w B 22 ty 3 i0 (.int .i64 0) 1 8 Tryd.underlying22 hinf hz0 hz1 hz2 rfl (by decide) v n xs h ad l.length c (inc l) (by rw [List.length_map]; omega) hc (fun u hu => by obtain ⟨x, _, rfl⟩ := List.mem_map.1 hu; rfl) (by unfold maxLen; omega) hb hB
    exact ⟨v', w', hr, ho, hg⟩
theorem wpList_append_in {w : World} {ops : Array Oper} {rest : List Oper} {o : Oper} {a : Act} {Q : Exit → Act → World → Prop} (hgd : o.guard = none) (s x : Operand)
    (ho : o.op = .call { callee := .builtin .append, args := #[s, x], argTypes := #[22, 22] }) {B n c : Nat} {A : Option Addr} {l : List Int} {v : Value} {xs : List Value} (hs : a.eval s = v) (hx : a.eval x = .slice A l.length c)
    (h : w.ownsRow B 3 1 v n xs) (hin : InI w A c l) (hB : B ≤ w.heap.size) (hb : (n + l.length) * 8 ≤ 140737488355328)
    (hk : ∀ v' w', w'.ownsRow B 3 1 v' (n + l.length) (xs ++ inc l) → w.grownBy w' v.ownBlock → wpList Tryd.prog ops Q rest (a.put o.dst v') w') : wpList Tryd.prog ops Q (o :: rest) a w := by
  refine wpList_plain hgd fun K hK => ?_
  obtain ⟨v', w', hr, h3, h4⟩ := run_append_in w o.type h hin hB hb
  unfold Oper.wp execOp
  simp only [ho, resolve, invoke, builtin, Sem.run_bind, Sem.run_pure, Result.andThen_ok, List.map_toArray, List.map_cons, List.map_nil, hs, hx, hr]
  exact hK _ _ (hk v' w' h3 h4)
theorem own_four (w : World) (a b c d : Int) : (w.alloc (.cells #[.int .i64 a, .int .i64 b, .int .i64 c, .int .i64 d] 3)).ownsRow w.heap.size 3 1 (.slice (some ⟨w.heap.size, 0, none⟩) 4 4) 4 (inc [a, b, c, d]) :=
  ⟨rfl, .inr ⟨w.heap.size, 4, #[.int .i64 a, .int .i64 b, .int .i64 c, .int .i64 d], rfl, Nat.le_refl _, heap_alloc_new w _, Nat.le_refl _, by unfold maxLen; omega, rfl, rfl⟩⟩
theorem cnt_take {ss : List Shape} {j : Nat} {s : Shape} (l : List Int) (h : ss[j]? = some s) : (ss.take (j + 1)).countP (inL l) = (ss.take j).countP (inL l) + (if inL l s = true then 1 else 0) := by
  rw [List.take_add_one, h, List.countP_append]
  simp [List.countP_cons]
theorem inL_snoc : ∀ (l : List Int) (s : Shape) (b : Int) (p : Int × Int), inL l s = true → p.1 ≤ b → b ≤ p.2 → inL (l ++ [b]) (s ++ [p]) = true
  | [], [], b, p, _, h1, h2 => (inL_cons b [] p []).2 ⟨⟨h1, h2⟩, rfl⟩
  | x :: l, q :: s, b, p, h, h1, h2 => by
    obtain ⟨h3, h4⟩ := (inL_cons x l q s).1 h
    exact (inL_cons x (l ++ [b]) q (s ++ [p])).2 ⟨h3, inL_snoc l s b p h4 h1 h2⟩
  | _ :: _, [], _, _, h, _, _ => by cases h
  | [], _ :: _, _, _, h, _, _ => by cases h
theorem byl_asText {l : List Int} (h : By l) : byl (asText l) = l := by
  unfold byl
  rw [asText_data, List.map_map]
  conv => rhs; rw [← List.map_id l]
  refine List.map_congr_left fun n hn => ?_
  obtain ⟨h0, h1⟩ := h n hn
  show ((UInt8.ofNat n.toNat).toNat : Int) = n
  rw [UInt8.toNat_ofNat_of_lt' (by show n.toNat < 256; omega)]
  omega
theorem byl_enc {r : Int} (h : cp r) : byl (Utf8.encode r) = enL r := by rw [encode_eq h]; exact byl_asText (enL_by r)
end Go.Proofs.YtiillgahnbimjabDoor
