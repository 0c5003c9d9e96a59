/- DERIVED. Walks: appendShape. -/
import Derived.Test.YtiillgahnbimjaaDoorRng
import Derived.Test.YtiillgahnbimjaaDoorWks
namespace Go.Proofs.YtiillgahnbimjaaDoor
open Go.RowKit

theorem al_size' (w : World) (o : Obj) : (w.alloc o).heap.size = w.heap.size + 1 := by simp
/-- A node: its kind, its set. -/
abbrev Nd := Int × BitVec 256
def ndV (n : Nd) : List Value := [.int .i64 n.1, .int .i64 0, .string ⟨#[]⟩, .int .u64 (wd n.2 0), .int .u64 (wd n.2 1), .int .u64 (wd n.2 2), .int .u64 (wd n.2 3)]
def ndc (l : List Nd) : List Value := l.flatMap ndV
theorem ndc_append (a b : List Nd) : ndc (a ++ b) = ndc a ++ ndc b := List.flatMap_append
theorem ndc_one (n : Nd) : ndc [n] = ndV n := by unfold ndc; rw [List.flatMap_cons, List.flatMap_nil, List.append_nil]
/-- The nodes of a span, of the first spans of a shape. -/
def ndI (s : Shape) (i : Nat) : List Nd := match s[i]? with
  | some p => (5, spn p.1 p.2) :: (if 0 < i then [(7, 0#256)] else [])
  | none => []
def ndTo (s : Shape) (k : Nat) : List Nd := (List.range k).flatMap (ndI s)
theorem ndTo_succ (s : Shape) (k : Nat) : ndTo s (k + 1) = ndTo s k ++ ndI s k := by unfold ndTo; rw [List.range_succ, List.flatMap_append]; simp
/-- The nodes of a list of shapes. -/
def ptI (ss : List Shape) (i : Nat) : List Nd := match ss[i]? with
  | some s => ndTo s s.length ++ (if 0 < i then [(8, 0#256)] else [])
  | none => []
def ptTo (ss : List Shape) (k : Nat) : List Nd := (List.range k).flatMap (ptI ss)
theorem ptTo_succ (ss : List Shape) (k : Nat) : ptTo ss (k + 1) = ptTo ss k ++ ptI ss k := by unfold ptTo; rw [List.range_succ, List.flatMap_append]; simp
theorem ndI_len (s : Shape) (i : Nat) : (ndI s i).length ≤ 2 := by
  unfold ndI
  split
  · split <;> simp
  · simp
theorem ndTo_len (s : Shape) (k : Nat) : (ndTo s k).length ≤ 2 * k := by
  induction k with
  | zero => simp [ndTo]
  | succ k ih => rw [ndTo_succ, List.length_append]; have := ndI_len s k; omega
theorem ptTo_len (ss : List Shape) (k : Nat) (h : ∀ s ∈ ss, s.length ≤ 4) : (ptTo ss k).length ≤ 9 * k := by
  induction k with
  | zero => simp [ptTo]
  | succ k ih =>
    rw [ptTo_succ, List.length_append]
    have : (ptI ss k).length ≤ 9 := by
      unfold ptI
      split
      · next s hs =>
        have h1 := h s (List.mem_of_getElem? hs)
        have h2 := ndTo_len s s.length
        rw [List.length_append]
        split <;> simp <;> omega
      · simp
    omega

theorem Tryd.info80 : (Tryd.prog.info? 80).map (fun i => (i.zero, i.size, i.bytes)) = some (some (.agg #[.int .i64 0, .int .i64 0, .string ⟨#[]⟩, .int .u64 0, .int .u64 0, .int .u64 0, .int .u64 0]), 7, 64) := by kernel_rfl
/-- A node's cells, as they are laid. -/
abbrev ndA (op : Int) (x : BitVec 256) : Array Value := #[.int .i64 op, .int .i64 0, .string ⟨#[]⟩, .int .u64 (wd x 0), .int .u64 (wd x 1), .int .u64 (wd x 2), .int .u64 (wd x 3)]
abbrev ndZ (op : Int) : Array Value := #[.int .i64 op, .int .i64 0, .string ⟨#[]⟩, .int .u64 0, .int .u64 0, .int .u64 0, .int .u64 0]
theorem ndZ_eq (op : Int) : (ndZ op).toList = ndV (op, 0#256) := by unfold ndV; simp only [wd_zero]
theorem news_two (w : World) (a : Obj) (cs : Array Value) : ∀ (j : Nat) u, cs.toList[j]? = some u → ((w.alloc a).alloc (.cells cs 80)).cell? ((⟨w.heap.size + 1, 0, none⟩ : Addr).add j) = some u :=
  World.news_of_block (t := 80) (fr := (0, 0)) (by have h := heap_alloc_new (w.alloc a) (.cells cs 80); rwa [al_size'] at h)
theorem news_one (w : World) (cs : Array Value) : ∀ (j : Nat) u, cs.toList[j]? = some u → (w.alloc (.cells cs 80)).cell? ((⟨w.heap.size, 0, none⟩ : Addr).add j) = some u :=
  World.news_of_block (t := 80) (fr := (0, 0)) (heap_alloc_new w _)
theorem nd_one (n : Nd) : ∀ u ∈ ndV n, u.oneCell' = true := fun u hu => by
  unfold ndV at hu
  simp only [List.mem_cons, List.not_mem_nil, or_false] at hu
  rcases hu with rfl | rfl | rfl | rfl | rfl | rfl | rfl <;> rfl
theorem spl_grown {W W' : World} {g off : Nat} {s : Shape} {row : Option Nat} (h : SpL W g off s) (hg : W.grownBy W' row) (hlt : g < W.heap.size) (hne : some g ≠ row) : SpL W' g off s := fun j p hp =>
  ⟨(hg.cell_far ⟨g, off + j * 2, none⟩ hlt hne).trans (h j p hp).1, (hg.cell_far ⟨g, off + j * 2 + 1, none⟩ hlt hne).trans (h j p hp).2⟩
/-- What holds while nodes are laid onto a row. -/
structure AtN (w wr : World) (B : Nat) (v v' : Value) (L : List Nd) : Prop where
  o : wr.ownsRow B 80 7 v' L.length (ndc L)
  g : w.grownBy wr v.ownBlock
  k : ∀ k, v'.ownBlock = some k → v.ownBlock = some k ∨ w.heap.size ≤ k
theorem AtN.below {w wr w2 : World} {B : Nat} {v v' : Value} {L : List Nd} (h : AtN w wr B v v' L) (hb : Below wr.heap.size wr w2) : AtN w w2 B v v' L :=
  ⟨own_below h.o hb, h.g.trans (Below.grow hb _), h.k⟩
theorem AtN.alloc {w wr : World} {B : Nat} {v v' : Value} {L : List Nd} (h : AtN w wr B v v' L) (o : Obj) : AtN w (wr.alloc o) B v v' L := h.below ((Below.refl _ _).alloc (Nat.le_refl _) _)
theorem AtN.push {w wr w1 : World} {B g cap : Nat} {v v' : Value} {L : List Nd} {n : Nd} {ob : Obj} (h : AtN w wr B v v' L) (hown : w1.ownsRow B 80 7 (.slice (some ⟨g, 0, none⟩) (L.length + 1) cap) (L.length + 1) (ndc L ++ ndV n)) (hgrow : (wr.alloc ob).grownBy w1 v'.ownBlock) (hat : v'.ownBlock = some g ∨ g = wr.heap.size + 1) :
    AtN w w1 B v (.slice (some ⟨g, 0, none⟩) (L.length + 1) cap) (L ++ [n]) := by
  refine ⟨by rw [List.length_append, ndc_append, ndc_one]; exact hown, (h.g.trans (World.grownBy_alloc wr ob _)).andThen hgrow (fun j e => ?_), fun k e => ?_⟩
  · rcases h.k j e with q | q
    · exact .inr q
    · exact .inl q
  · have e2 : g = k := Option.some.inj e
    rcases hat with q | q
    · rcases h.k g q with q2 | q2
      · exact .inl (by rw [q2, e2])
      · exact .inr (by omega)
    · have := h.g.size
      exact .inr (by omega)

set_option maxRecDepth 100000 in
set_option maxHeartbeats 8000000 in
theorem appendShape_any (v : Value) (L : List Nd) (B gx cx : Nat) (s : Shape) (hs : ∀ p ∈ s, 0 ≤ p.1 ∧ p.1 ≤ p.2 ∧ p.2 ≤ 255) (hsl : s.length ≤ 4) (hL : L.length ≤ 20000000) (w : World) (ho : w.ownsRow B 80 7 v L.length (ndc L)) (hB : B ≤ w.heap.size) (hx : SpL w gx 0 s) (hgx : gx < w.heap.size) (hne : v.ownBlock ≠ some gx) :
    Calls Tryd.prog 41 #[v, .slice (some ⟨gx, 0, none⟩) s.length cx] w fun e w' => ∃ v', e = .returned v' ∧ AtN w w' B v v' (L ++ ndTo s s.length) := by
  obtain ⟨i0, hinf, hz0, hz1, hz2⟩ := info_parts Tryd.info80
  have HA := (show Hid (AtN w w B v v (L ++ ndTo s 0)) from ⟨by unfold ndTo; simpa using ho, World.grownBy.refl _ _, fun k e => .inl e⟩)
  have HX := (show Hid _ from hx)
  have HNe := (show Hid (some gx ≠ v.ownBlock) from Ne.symm hne)
  have HS := (show Hid _ from hs)
  have HG := (show Hid (∀ k, k < s.length → ∃ p, s[k]? = some p) from fun k hk => ⟨_, List.getElem?_eq_getElem hk⟩)
  clear ho hx hne hs
  go_enter Tryd.func41, Tryd.ntmps41
  go_wp2_with fail
  go_loopw [0, 11] (fun u t wr => ∃ k : Nat, k ≤ s.length ∧ t = .int .i64 k ∧ Hid (AtN w wr B v u (L ++ ndTo s k))) (fun _ t _ => s.length - (intOf t).toNat)
  case atStart => exact ⟨0, by omega, by go_num, HA⟩
  case round =>
    obtain ⟨k, hk, rfl, HW⟩ := hrel
    clear HA
    by_cases hlt : k < s.length
    · obtain ⟨⟨p1, p2⟩, hp⟩ := HG.out k hlt
      have HN := (show Hid (ndTo s (k + 1) = ndTo s k ++ ((5, spn p1 p2) :: (if 0 < k then [(7, 0#256)] else []))) from (by show _ = _; rw [ndTo_succ]; unfold ndI; rw [hp]))
      obtain ⟨b0, b1, b2⟩ := HS.out _ (List.mem_of_getElem? hp)
      obtain ⟨c0, c1⟩ := (spl_grown HX.out HW.out.g hgx HNe.out) k _ hp
      dsimp only at b0 b1 b2 c0 c1
      rw [Nat.zero_add] at c0 c1
      have HR : Hid (∀ w, Calls Tryd.prog 49 #[.int .i64 p1, .int .i64 p2] w fun e w' => e = .returned (.tuple #[sv (spn p1 p2), .int .i64 0]) ∧ Below w.heap.size w w') := fun w => range_yes p1 p2 w b0 b1 b2
      have hll := ndTo_len s k
      have z0 : (0 : Int) ≤ (k : Int) := by omega
      have z1 : (k : Int) < (s.length : Int) := by omega
      have hLl : (L ++ ndTo s k).length ≤ 20000008 := by rw [List.length_append]; omega
      have hwB : B ≤ wr.heap.size := Nat.le_trans hB HW.out.g.size
      generalize ndTo s k = T at *
      generalize hM : L ++ T = M at *
      have HM := (show Hid _ from hM)
      clear hp hM HG HS hll
      generalize spn p1 p2 = x at *
      generalize s.length = m at *
      go_wp2_with fail
      refine (HR.out _).mono ?_
      rintro e w2 ⟨rfl, hb2⟩
      have HW2 := (show Hid (AtN w w2 B v u0 M) from (HW.out.alloc _).below hb2)
      have hsz2 := hb2.size
      rw [al_size'] at hsz2
      clear hb2 HW c0 c1
      have hO2 := HW2.out.o
      go_wp2_with (at_builtin; refine wpList_append_lies _ rfl _ _ 47 rfl B 80 i0 (.agg #[.int .i64 0, .int .i64 0, .string ⟨#[]⟩, .int .u64 0, .int .u64 0, .int .u64 0, .int .u64 0]) 7 64 Tryd.underlying47 hinf hz0 hz1 hz2 rfl (by decide) _ _ _ rfl ((hO2.alloc _).alloc _) ⟨w2.heap.size + 1, 0, none⟩ 1 1 (ndV (5, x)) rfl rfl (news_two w2 _ (ndA 5 x)) (nd_one _) (by decide) ?c3 ?c4 ?c5 (w2.heap.size + 1 + 1) (by simp) ?_)
      case c3 => unfold maxLen; omega
      case c4 => omega
      case c5 => simp; omega
      intro g cap w3 hown hgrow hat hlt3
      have HW3 := (show Hid (AtN w w3 B v (.slice (some ⟨g, 0, none⟩) (M.length + 1) cap) (M ++ [(5, x)])) from (HW2.out.alloc _).push hown hgrow (by rw [al_size']; exact hat))
      have hsz3 := hgrow.size
      rw [al_size', al_size'] at hsz3
      clear hown hgrow hat hO2 HW2
      by_cases hk0 : 0 < k
      · have z2 : (0 : Int) < (k : Int) := by omega
        have hO3 := HW3.out.o
        have HN2 := (show Hid (L ++ ndTo s (k + 1) = (M ++ [(5, x)]) ++ [(7, 0#256)]) from (by show _ = _; rw [HN.out, if_pos hk0, ← HM.out]; simp))
        go_wp2_with (at_builtin; refine wpList_append_lies _ rfl _ _ 47 rfl B 80 i0 (.agg #[.int .i64 0, .int .i64 0, .string ⟨#[]⟩, .int .u64 0, .int .u64 0, .int .u64 0, .int .u64 0]) 7 64 Tryd.underlying47 hinf hz0 hz1 hz2 rfl (by decide) _ _ _ rfl (hO3.alloc _) ⟨w3.heap.size, 0, none⟩ 1 1 (ndZ 7).toList rfl rfl (news_one w3 (ndZ 7)) (by rw [ndZ_eq]; exact nd_one _) (by decide) ?c3 ?c4 ?c5 (w3.heap.size + 1) (by simp) ?_)
        case c3 => simp; unfold maxLen; omega
        case c4 => simp; omega
        case c5 => simp; omega
        intro g2 cap2 w4 hown hgrow hat hlt4
        have HW4 := (show Hid (AtN w w4 B v (.slice (some ⟨g2, 0, none⟩) (M.length + 1 + 1) cap2) (L ++ ndTo s (k + 1))) from (by
          have e : (M ++ [(5, x)]).length = M.length + 1 := by simp
          rw [HN2.out]
          have hp := HW3.out.push (g := g2) (cap := cap2) (n := (7, 0#256)) (by rw [e, ← ndZ_eq]; exact hown) hgrow hat
          rwa [e] at hp))
        clear hown hgrow hat hO3 HW3
        go_wp2
        go_roundw
        case rel => exact ⟨k + 1, by omega, by go_num, HW4⟩
        case measure => simp [intOf]; omega
      · have hk00 : k = 0 := by omega
        have HN2 := (show Hid (L ++ ndTo s (k + 1) = M ++ [(5, x)]) from (by show _ = _; rw [HN.out, if_neg hk0, ← HM.out]; simp))
        rw [← HN2.out] at HW3
        subst hk00
        go_wp2
        go_roundw
        case rel => exact ⟨0 + 1, by omega, by go_num, HW3⟩
        case measure => simp [intOf]; omega
    · obtain rfl : k = s.length := by omega
      clear HG HS HX
      go_wp2
      go_ret
      exact ⟨_, rfl, HW.out⟩
end Go.Proofs.YtiillgahnbimjaaDoor
