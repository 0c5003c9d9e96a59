/- RulesNames: Rename of the program answers what the document does for every grammar, number and name, in memory that is the same grammar; Same tells grammars as they are; what was handed in stays as it was. -/
import Derived.Test.YtppggnmlbcdegaaRn06
namespace Go.Proofs.Ytppggnmlbcdegaa.N
open Go.RowKit Go.Maps
open Go.Proofs.Ytppggnmlbcdegaa.T
/-- A list whose first entries are changed already. -/
def mxB (f : Nd → Nd) (L : List Nd) (k : Nat) : List Nd := L.mapIdx fun j n => if j < k then f n else n
theorem mx_get {f : Nd → Nd} {L : List Nd} {k : Nat} (j : Nat) : (mxB f L k)[j]? = (L[j]?).map fun n => if j < k then f n else n := by
  unfold mxB
  rw [List.getElem?_mapIdx]
theorem mx_len {f : Nd → Nd} {L : List Nd} {k : Nat} : (mxB f L k).length = L.length := by unfold mxB; rw [List.length_mapIdx]
theorem mx_zero {f : Nd → Nd} {L : List Nd} : mxB f L 0 = L := by
  refine List.ext_getElem? fun j => ?_
  rw [mx_get]
  cases L[j]? with
  | none => rfl
  | some n => simp
theorem mx_all {f : Nd → Nd} {L : List Nd} {k : Nat} (h : L.length ≤ k) : mxB f L k = L.map f := by
  refine List.ext_getElem? fun j => ?_
  rw [mx_get, List.getElem?_map]
  cases hj : L[j]? with
  | none => rfl
  | some n =>
    have := (List.getElem?_eq_some_iff.1 hj).1
    rw [Option.map_some, Option.map_some, if_pos (by omega)]
theorem mx_same {f : Nd → Nd} {L : List Nd} {k : Nat} {n : Nd} (h : L[k]? = some n) (hf : f n = n) : mxB f L (k + 1) = mxB f L k := by
  refine List.ext_getElem? fun j => ?_
  rw [mx_get, mx_get]
  by_cases q : j = k
  · subst q
    rw [h, Option.map_some, Option.map_some, if_pos (Nat.lt_succ_self _), if_neg (Nat.lt_irrefl _), hf]
  · cases L[j]? with
    | none => rfl
    | some m =>
      rw [Option.map_some, Option.map_some]
      by_cases q2 : j < k
      · rw [if_pos q2, if_pos (by omega)]
      · rw [if_neg q2, if_neg (by omega)]
theorem mx_set {f : Nd → Nd} {L : List Nd} {k : Nat} {n : Nd} (h : L[k]? = some n) : mxB f L (k + 1) = (mxB f L k).set k (f n) := by
  refine List.ext_getElem? fun j => ?_
  rw [List.getElem?_set, mx_get, mx_get]
  by_cases q : k = j
  · subst q
    rw [h, Option.map_some, if_pos rfl, if_pos (Nat.lt_succ_self _), if_pos (by rw [mx_len]; exact (List.getElem?_eq_some_iff.1 h).1)]
  · rw [if_neg q]
    cases L[j]? with
    | none => rfl
    | some m =>
      rw [Option.map_some, Option.map_some]
      by_cases q2 : j < k
      · rw [if_pos q2, if_pos (by omega)]
      · rw [if_neg q2, if_neg (by omega)]
/-- A grammar while it is renamed: the rules ahead of i whole, of the rule i the nodes ahead of k. -/
def rkG (gs : GL) (r : Nat) (a b : ByteArray) (i k : Nat) : GL := gs.mapIdx fun j g => (if j = r then b else g.1, mxB (reN a b) g.2 (if j < i then g.2.length else if j = i then k else 0))
theorem rk_get {gs : GL} {r : Nat} {a b : ByteArray} {i k : Nat} (j : Nat) : (rkG gs r a b i k)[j]? = (gs[j]?).map fun g => (if j = r then b else g.1, mxB (reN a b) g.2 (if j < i then g.2.length else if j = i then k else 0)) := by
  unfold rkG
  rw [List.getElem?_mapIdx]
theorem rk_at {gs : GL} {r : Nat} {a b : ByteArray} {i k : Nat} {g : ByteArray × List Nd} (h : gs[i]? = some g) : (rkG gs r a b i k)[i]? = some (if i = r then b else g.1, mxB (reN a b) g.2 k) := by
  rw [rk_get, h, Option.map_some, if_neg (Nat.lt_irrefl i), if_pos rfl]
theorem rk_len {gs : GL} {r : Nat} {a b : ByteArray} {i k : Nat} : (rkG gs r a b i k).length = gs.length := by unfold rkG; rw [List.length_mapIdx]
theorem rk_start {gs : GL} {r : Nat} {a b : ByteArray} {g0 : ByteArray × List Nd} (h : gs[r]? = some g0) : gs.set r (b, g0.2) = rkG gs r a b 0 0 := by
  refine List.ext_getElem? fun j => ?_
  rw [List.getElem?_set, rk_get]
  by_cases q : r = j
  · subst q
    rw [if_pos rfl, if_pos (List.getElem?_eq_some_iff.1 h).1, h, Option.map_some, if_pos rfl, if_neg (Nat.not_lt_zero _), show (if r = 0 then 0 else 0) = 0 from by split <;> rfl, mx_zero]
  · rw [if_neg q]
    cases gs[j]? with
    | none => rfl
    | some g => rw [Option.map_some, if_neg (fun e => q e.symm), if_neg (Nat.not_lt_zero _), show (if j = 0 then 0 else 0) = 0 from by split <;> rfl, mx_zero]
theorem rk_next {gs : GL} {r : Nat} {a b : ByteArray} {i : Nat} {g : ByteArray × List Nd} (h : gs[i]? = some g) : rkG gs r a b i g.2.length = rkG gs r a b (i + 1) 0 := by
  refine List.ext_getElem? fun j => ?_
  rw [rk_get, rk_get]
  by_cases q : j = i
  · subst q
    rw [h, Option.map_some, Option.map_some, if_neg (Nat.lt_irrefl j), if_pos rfl, if_pos (Nat.lt_succ_self j)]
  · cases gs[j]? with
    | none => rfl
    | some m =>
      rw [Option.map_some, Option.map_some]
      by_cases q2 : j < i
      · rw [if_pos q2, if_pos (show j < i + 1 by omega)]
      · rw [if_neg q2, if_neg q, if_neg (show ¬ j < i + 1 by omega), show (if j = i + 1 then 0 else 0) = 0 from by split <;> rfl]
theorem rk_end {gs : GL} {r : Nat} {a b : ByteArray} : rkG gs r a b gs.length 0 = reG gs r a b := by
  refine List.ext_getElem? fun j => ?_
  rw [rk_get, reG_get]
  cases h : gs[j]? with
  | none => rfl
  | some m => rw [Option.map_some, Option.map_some, if_pos (List.getElem?_eq_some_iff.1 h).1, mx_all (Nat.le_refl _)]
theorem rk_same {gs : GL} {r : Nat} {a b : ByteArray} {i k : Nat} {g : ByteArray × List Nd} {n : Nd} (h : gs[i]? = some g) (hn : g.2[k]? = some n) (hf : reN a b n = n) : rkG gs r a b i (k + 1) = rkG gs r a b i k := by
  refine List.ext_getElem? fun j => ?_
  rw [rk_get, rk_get]
  by_cases q : j = i
  · subst q
    rw [h, Option.map_some, Option.map_some, if_neg (Nat.lt_irrefl j), if_pos rfl, if_neg (Nat.lt_irrefl j), if_pos rfl, mx_same hn hf]
  · cases gs[j]? with
    | none => rfl
    | some m => rw [Option.map_some, Option.map_some, if_neg q, if_neg q]
theorem rk_set {gs : GL} {r : Nat} {a b : ByteArray} {i k : Nat} {g : ByteArray × List Nd} {n : Nd} (h : gs[i]? = some g) (hn : g.2[k]? = some n) : rkG gs r a b i (k + 1) = (rkG gs r a b i k).set i (if i = r then b else g.1, (mxB (reN a b) g.2 k).set k (reN a b n)) := by
  refine List.ext_getElem? fun j => ?_
  rw [List.getElem?_set, rk_get, rk_get, rk_len]
  by_cases q : i = j
  · subst q
    rw [h, Option.map_some, if_neg (Nat.lt_irrefl i), if_pos rfl, if_pos rfl, if_pos (List.getElem?_eq_some_iff.1 h).1, mx_set hn]
  · rw [if_neg q]
    cases gs[j]? with
    | none => rfl
    | some m =>
      have q2 : ¬ j = i := fun e => q e.symm
      simp only [Option.map_some, if_neg q2]
end Go.Proofs.Ytppggnmlbcdegaa.N

namespace Go.Proofs.Ytppggnmlbcdegaa.N
open Go.RowKit Go.Maps
open Go.Proofs.Ytppggnmlbcdegaa.T
/-- While a grammar is copied. -/
structure CpI (w wr : World) (a v : Value) (ov : List Rg) : Prop where
  o : OG wr w.heap.size v ov
  b : Below w.heap.size w wr
  x : GX wr w.heap.size a
  y : GX wr (w.heap.size + 1) (.slice none 0 0)
  z : GX wr (w.heap.size + 2) v
theorem CpI.later {w wr W' : World} {a v : Value} {ov : List Rg} (h : CpI w wr a v ov) (hb : Below wr.heap.size wr W') : CpI w W' a v ov :=
  ⟨h.o.later hb, h.b.trans (hb.mono h.b.size), h.x.below hb, h.y.below hb, h.z.below hb⟩
theorem CpI.box {w wr wA w5 : World} {a v v2 : Value} {ov : List Rg} {nm : ByteArray} (h : CpI w wr a v ov) (hA : Below wr.heap.size wr wA) (hg : (wA.alloc (.cells #[.string nm, v2] 57)).grownBy w5 v.ownBlock) : GX w5 w.heap.size a ∧ GX w5 (w.heap.size + 1) (.slice none 0 0) ∧ GX w5 (w.heap.size + 2) v := by
  have h2 := (h.later hA).later (below_box wA (.cells #[.string nm, v2] 57))
  exact ⟨h2.x.same (hg.block _ h2.x.lt (fun e => h2.x.ne h2.o.o (by decide) e.symm rfl)), h2.y.same (hg.block _ h2.y.lt (fun e => h2.y.ne h2.o.o (by decide) e.symm rfl)), h2.z.same (hg.block _ h2.z.lt (fun e => h2.z.ne h2.o.o (by decide) e.symm rfl))⟩
theorem CpI.push {w wr wA w5 : World} {a v u v2 : Value} {ov : List Rg} {nm : ByteArray} {L : List Nd} (h : CpI w wr a v ov) (hA : Below wr.heap.size wr wA) (hl : wA.ownsRow wr.heap.size 68 7 v2 L.length (ndc L)) (hg : (wA.alloc (.cells #[.string nm, v2] 57)).grownBy w5 v.ownBlock) (ho : w5.ownsRow w.heap.size 57 2 u (ov.length + 1) (rgc ov ++ [.string nm, v2])) : CpI w (w5.setCell ⟨w.heap.size + 2, 0, none⟩ u) a u (ov ++ [((nm, L), v2)]) := by
  obtain ⟨x5, y5, z5⟩ := h.box hA hg
  have o5 := h.o.push h.b.size hA hl hg ho
  have h2 := (h.later hA).later (below_box wA (.cells #[.string nm, v2] 57))
  have b5 : Below w.heap.size w w5 := h2.b.grown hg h2.b.size (fun k e => (h2.o.o.lt k e).1)
  have key : ∀ (j : Nat), j ≠ w.heap.size + 2 → (w5.setCell ⟨w.heap.size + 2, 0, none⟩ u).heap[j]? = w5.heap[j]? := fun j hj => Below.heap_setCell _ _ _ _ hj
  exact ⟨o5.same fun k hk => key k (o5.ne z5 hk), b5.setCell (p := ⟨w.heap.size + 2, 0, none⟩) (by show w.heap.size ≤ w.heap.size + 2; omega) _, x5.same (key _ (by omega)), y5.same (key _ (by omega)), z5.set _⟩
theorem enters67 (args : Array Value) (w : World) : (callFunc 67 args).run Try.prog w = .ok (.enter 67 args) w := enters_of Try.func67 (by kernel_rfl) rfl args w
set_option maxRecDepth 100000 in
set_option maxHeartbeats 16000000 in
theorem copyG_any (gs : GL) (A : Option Addr) (c : Nat) (w : World) (hd : GrD w A gs) (hn : gs.length ≤ 200) (hL : ∀ g ∈ gs, g.2 ≠ [] ∧ g.2.length ≤ 2048) :
    Calls Try.prog 53 #[.agg #[.slice A gs.length c]] w fun e w' => (∃ v ov, e = .returned (.agg #[v]) ∧ ov.map (·.1) = gs ∧ OG w' w.heap.size v ov) ∧ Below w.heap.size w w' := by
  obtain ⟨i0, hinf, hz0, hz1, hz2⟩ := info_parts Try.info41
  have HG := (show Hid (∀ k, k < gs.length → ∃ g, gs[k]? = some g ∧ g.2.length ≤ 2048 ∧ ∃ b o ad c2, A = some ⟨b, o, none⟩ ∧ b < w.heap.size ∧ w.cell? ⟨b, o + k * 2, none⟩ = some (.string g.1) ∧ w.cell? ⟨b, o + k * 2 + 1, none⟩ = some (.slice (some ad) g.2.length c2) ∧ RdN w (some ad) g.2) from fun k hk => by
    have e : gs[k]? = some gs[k] := List.getElem?_eq_getElem hk
    obtain ⟨b, o, A2, c2, h1, h2, h3, h4, h5⟩ := hd k _ e
    have h6 := hL _ (List.getElem_mem hk)
    obtain ⟨b2, o2, rfl, _⟩ := h5 h6.1
    exact ⟨_, e, h6.2, b, o, _, c2, h1, h2, h3, h4, h5⟩)
  have HA := (show Hid (CpI w (((w.alloc (.cells #[.slice A gs.length c] 24)).alloc (.cells #[.slice none 0 0] 24)).alloc (.cells #[.slice none 0 0] 24)) (.slice A gs.length c) (.slice none 0 0) []) from by
    have s1 := World.size_alloc w (.cells #[.slice A gs.length c] 24)
    have s2 := World.size_alloc (w.alloc (.cells #[.slice A gs.length c] 24)) (.cells #[.slice none 0 0] 24)
    refine ⟨OG.nil _ _, (((Below.refl _ _).alloc (Nat.le_refl _) _).alloc (by omega) _).alloc (by omega) _, ((GX.mk (heap_alloc_new w _)).below (below_box _ _)).below (below_box _ _), (GX.mk ?_).below (below_box _ _), ⟨?_⟩⟩
    · have h := heap_alloc_new (w.alloc (.cells #[.slice A gs.length c] 24)) (.cells #[.slice none 0 0] 24); rw [s1] at h; exact h
    · have h := heap_alloc_new ((w.alloc (.cells #[.slice A gs.length c] 24)).alloc (.cells #[.slice none 0 0] 24)) (.cells #[.slice none 0 0] 24); rw [s2, s1] at h; exact h)
  clear hd hL
  go_enter Try.func53, Try.ntmps53
  go_wp2_with fail
  rw [show w.heap.size + 1 + 1 = w.heap.size + 2 from rfl]
  generalize ((w.alloc (.cells #[.slice A gs.length c] 24)).alloc (.cells #[.slice none 0 0] 24)).alloc (.cells #[.slice none 0 0] 24) = w1 at *
  go_loopw [4] (fun t wr => ∃ (k : Nat) (ov : List Rg) (Av : Option Addr) (cv : Nat), k ≤ gs.length ∧ t = .int .i64 (k : Int) ∧ Hid (ov.length = k ∧ ov.map (·.1) = gs.take k) ∧ Hid (CpI w wr (.slice A gs.length c) (.slice Av k cv) ov)) (fun t _ => gs.length - (intOf t).toNat)
  case atStart => exact ⟨0, [], none, 0, Nat.zero_le _, rfl, ⟨rfl, rfl⟩, HA⟩
  case round =>
    obtain ⟨k, ov, Av, cv, hk, rfl, HM, HW⟩ := hrel
    clear HA
    have x0 := HW.out.x.cl
    by_cases hlt : k < gs.length
    · obtain ⟨g, hgk, hgl, b, o, ad, c2, rfl, lb, e0, e1, hin⟩ := HG.out k hlt
      have z0 : (0 : Int) ≤ (k : Int) := by omega
      have z1 : (k : Int) < (gs.length : Int) := by omega
      have hD : Below wr.heap.size wr wr.drew := (Below.refl _ _).drew
      have HLd := (show Hid (CpI w wr.drew (.slice (some ⟨b, o, none⟩) gs.length c) (.slice Av k cv) ov) from HW.out.later hD)
      have d0 := (HLd.out.b.cell (p := ⟨b, o + k * 2, none⟩) lb).trans e0
      have d1 := (HLd.out.b.cell (p := ⟨b, o + k * 2 + 1, none⟩) lb).trans e1
      have dx := HLd.out.x.cl
      have dz := HLd.out.z.cl
      have hsz : w.heap.size ≤ wr.heap.size := HW.out.b.size
      have HCall := (show Hid (∀ _ : Unit, Calls Try.prog 67 #[.slice (some ad) g.2.length c2] wr.drew fun e w' => (∃ A9 c9, e = .returned (.slice A9 g.2.length c9) ∧ w'.ownsRow wr.heap.size 68 7 (.slice A9 g.2.length c9) g.2.length (ndc g.2)) ∧ Below wr.drew.heap.size wr.drew w') from fun _ => by
        refine (copy_any ad c2 g.2 wr.drew hgl (hin.below HLd.out.b (Nat.le_refl _))).mono ?_
        rintro e w' ⟨⟨v9, rfl, r9⟩, b9⟩
        obtain ⟨A9, c9, rfl⟩ := own_sl r9
        exact ⟨⟨A9, c9, rfl, r9⟩, b9⟩)
      have HAft := (show Hid (∀ wA, Below wr.drew.heap.size wr.drew wA → wA.cell? ⟨w.heap.size, 0, none⟩ = some (.slice (some ⟨b, o, none⟩) gs.length c) ∧ wA.cell? ⟨b, o + k * 2, none⟩ = some (.string g.1) ∧ wA.cell? ⟨w.heap.size + 2, 0, none⟩ = some (.slice Av k cv) ∧ ∀ ob : Obj, (wA.alloc ob).cell? ⟨w.heap.size + 2, 0, none⟩ = some (.slice Av k cv)) from fun wA hA => by
        have h3 := HLd.out.later hA
        exact ⟨h3.x.cl, (h3.b.cell (p := ⟨b, o + k * 2, none⟩) lb).trans e0, h3.z.cl, fun ob => (h3.later (below_box wA ob)).z.cl⟩)
      have HTk := (show Hid (gs.take (k + 1) = gs.take k ++ [g]) from by rw [List.take_add_one, hgk]; rfl)
      have hov := HM.out.1
      have HO := (show Hid (wr.drew.ownsRow w.heap.size 57 2 (.slice Av k cv) k (rgc ov)) from by have h := HLd.out.o.o; rw [hov] at h; exact h)
      have HPu := (show Hid (∀ (wA w5 : World) (v2 u : Value), Below wr.drew.heap.size wr.drew wA → wA.ownsRow wr.heap.size 68 7 v2 g.2.length (ndc g.2) → (wA.alloc (.cells #[.string g.1, v2] 57)).grownBy w5 (Value.slice Av k cv).ownBlock → w5.ownsRow w.heap.size 57 2 u (k + 1) (rgc ov ++ [.string g.1, v2]) → GX w5 (w.heap.size + 2) (.slice Av k cv) ∧ CpI w (w5.setCell ⟨w.heap.size + 2, 0, none⟩ u) (.slice (some ⟨b, o, none⟩) gs.length c) u (ov ++ [((g.1, g.2), v2)])) from fun wA w5 v2 u hA hl hg ho => by
        have q2 : wr.drew.heap.size = wr.heap.size := rfl
        have hA2 : Below wr.heap.size wr wA := hD.trans (by rw [← q2]; exact hA)
        exact ⟨(HW.out.box hA2 hg).2.2, HW.out.push hA2 hl hg (by rw [HM.out.1]; exact ho)⟩)
      clear hgk hin e0 e1 HG hlt hov
      obtain ⟨nm, L⟩ := g
      simp only at d0 d1 HCall HAft HTk hgl HPu
      go_wp2_with fail
      go_region_law (first
        | (refine step_call1 enters67 rfl _ _ (by rfl) (.slice (some ad) L.length c2) (by rfl) ?_; with_reducible refine (HCall.out ()).mono ?_; rintro e wA ⟨⟨A9, c9, rfl, rA⟩, bA⟩; refine ⟨_, rfl, ?_⟩; obtain ⟨ax, a0, az, ay⟩ := HAft.out wA bA)
        | (refine step_append_lies _ (by rfl) _ _ _ (by rfl) w.heap.size 57 i0 (.agg #[.string ⟨#[]⟩, .slice none 0 0]) 2 40 Try.underlying22 hinf hz0 hz1 hz2 rfl (by omega) _ _ (rgc ov) (by rfl) ((T.own_below HO.out bA).alloc _) ⟨wA.heap.size, 0, none⟩ 1 1 [.string nm, .slice A9 L.length c9] (by rfl) (by rfl) (World.news_of_block (cs := #[.string nm, .slice A9 L.length c9]) (t := 57) (fr := (0, 0)) (heap_alloc_new wA _)) (by intro u hu; simp only [List.mem_cons, List.not_mem_nil, or_false] at hu; rcases hu with rfl | rfl <;> rfl) (by omega) (by unfold maxLen; omega) (by omega) (by have q1 := bA.size; have q2 : wr.drew.heap.size = wr.heap.size := rfl; rw [World.size_alloc]; omega) (wA.heap.size + 1) (by simp) ?_; intro g3 cap3 w5 hown hgrow hat hltg; obtain ⟨hz5, hpu⟩ := HPu.out wA w5 (.slice A9 L.length c9) (.slice (some ⟨g3, 0, none⟩) (k + 1) cap3) bA rA hgrow hown; have HPn := (show Hid _ from hpu); clear hpu; have hzf := hz5.fz; have hzc := hz5.cl; clear hz5))
      all_goals
        clear hown hgrow hat hltg rA bA ax a0 az ay HCall HAft HO HLd HW hD HPu
        generalize w5.setCell ⟨w.heap.size + 2, 0, none⟩ (.slice (some ⟨g3, 0, none⟩) (k + 1) cap3) = w6 at *
        go_wp2_with fail
        go_roundw
        case rel => exact ⟨k + 1, _, _, _, by omega, by go_num, ⟨by rw [List.length_append, HM.out.1]; rfl, by rw [List.map_append, HM.out.2, HTk.out]; rfl⟩, HPn⟩
        case measure => simp [intOf]; omega
    · obtain rfl : k = gs.length := by omega
      have HMm := (show Hid (ov.map (·.1) = gs) from by have := HM.out.2; rw [List.take_length] at this; exact this)
      have hyf := HW.out.y.fz
      have hyc := HW.out.y.cl
      have hzc := HW.out.z.cl
      clear HG HM
      go_wp2_with fail
      refine ret_gx rfl rfl rfl (HW.out.y.set _) ?_
      have h5 := HW.out
      have key : ∀ (j : Nat), j ≠ w.heap.size + 1 → (wr.setCell ⟨w.heap.size + 1, 0, none⟩ (.slice Av gs.length cv)).heap[j]? = wr.heap[j]? := fun j hj => Below.heap_setCell _ _ _ _ hj
      exact ⟨⟨_, ov, rfl, HMm.out, h5.o.same fun j hj => key j (h5.o.ne h5.y hj)⟩, h5.b.setCell (p := ⟨w.heap.size + 1, 0, none⟩) (by show w.heap.size ≤ w.heap.size + 1; omega) _⟩
end Go.Proofs.Ytppggnmlbcdegaa.N

namespace Go.Proofs.Ytppggnmlbcdegaa.N
open Go.RowKit Go.Maps
open Go.Proofs.Ytppggnmlbcdegaa.T

open U (below_grown)
theorem lkR_zero {gs : GL} {r : Int} (h : lkR gs r = 0) : RtG gs ∧ 0 ≤ r ∧ r < (gs.length : Int) := by
  unfold lkR at h
  by_cases h1 : (ckG gs).2 ≠ 0
  · rw [if_pos h1] at h; exact absurd h h1
  · rw [if_neg h1] at h
    by_cases h2 : r < 0 ∨ (gs.length : Int) ≤ r
    · rw [if_pos h2] at h; cases h
    · exact ⟨ckG_ok.1 (Classical.not_not.1 h1), by omega, by omega⟩
end Go.Proofs.Ytppggnmlbcdegaa.N

namespace Go.Proofs.Ytppggnmlbcdegaa.N
open Go.RowKit Go.Maps
open Go.Proofs.Ytppggnmlbcdegaa.T
/-- While the copy is renamed: the copy, the answer's box, the copy's box. -/
structure RdS (w wr : World) (v : Value) (k : Nat) (ov : List Rg) : Prop where
  o : OG wr w.heap.size v ov
  b : Below w.heap.size w wr
  y : GX wr (w.heap.size + 1) (.slice none 0 0)
  z : GX wr k v
theorem RdS.name {w wr : World} {k g n cap j : Nat} {ov : List Rg} {x : Rg} (h : RdS w wr (.slice (some ⟨g, 0, none⟩) n cap) k ov) (hn : n = ov.length) (hx : ov[j]? = some x) (s : ByteArray) : RdS w (wr.setCell ⟨g, j * 2, none⟩ (.string s)) (.slice (some ⟨g, 0, none⟩) n cap) k (ov.set j ((s, x.1.2), x.2)) := by
  have hot : ∀ q, q ≠ g → (wr.setCell ⟨g, j * 2, none⟩ (.string s)).heap[q]? = wr.heap[q]? := fun q hq => Below.heap_setCell _ _ _ _ hq
  exact ⟨h.o.name hn hx s, h.b.setCell (p := ⟨g, j * 2, none⟩) (h.o.o.lt g rfl).1 _, h.y.same (hot _ (fun e => h.y.ne h.o.o (by decide) rfl e.symm)), h.z.same (hot _ (fun e => h.z.ne h.o.o (by decide) rfl e.symm))⟩
theorem RdS.text {w wr : World} {v : Value} {k i j g2 l2 c2 : Nat} {ov : List Rg} {x : Rg} {nd : Nd} (h : RdS w wr v k ov) (hx : ov[i]? = some x) (h2 : x.2 = .slice (some ⟨g2, 0, none⟩) l2 c2) (hl : l2 = x.1.2.length) (hj : x.1.2[j]? = some nd) (s : ByteArray) : RdS w (wr.setCell ⟨g2, j * 7 + 2, none⟩ (.string s)) v k (ov.set i ((x.1.1, x.1.2.set j { nd with tx := s }), x.2)) := by
  have hot : ∀ q, q ≠ g2 → (wr.setCell ⟨g2, j * 7 + 2, none⟩ (.string s)).heap[q]? = wr.heap[q]? := fun q hq => Below.heap_setCell _ _ _ _ hq
  have ho := h.o.e x (List.mem_of_getElem? hx)
  have hb : x.2.ownBlock = some g2 := by rw [h2]; rfl
  exact ⟨h.o.text hx h2 hl hj s, h.b.setCell (p := ⟨g2, j * 7 + 2, none⟩) (ho.lt g2 hb).1 _, h.y.same (hot _ (fun e => h.y.ne ho (by decide) hb e.symm)), h.z.same (hot _ (fun e => h.z.ne ho (by decide) hb e.symm))⟩
theorem RdS.row {w wr : World} {k g n cap i : Nat} {ov : List Rg} {x : Rg} (h : RdS w wr (.slice (some ⟨g, 0, none⟩) n cap) k ov) (hx : ov[i]? = some x) (h0 : 0 < x.1.2.length) : ∃ g2 c2, x.2 = .slice (some ⟨g2, 0, none⟩) x.1.2.length c2 ∧ wr.cell? ⟨g, i * 2 + 1, none⟩ = some (.slice (some ⟨g2, 0, none⟩) x.1.2.length c2) := by
  have ho := h.o.e x (List.mem_of_getElem? hx)
  obtain ⟨g2, c2, e2, _⟩ := ho.form h0
  exact ⟨g2, c2, e2, by rw [(h.o.cell hx).2, e2]⟩
theorem RdS.nd {w wr : World} {v : Value} {k g2 c2 l2 i j : Nat} {ov : List Rg} {x : Rg} {nd : Nd} (h : RdS w wr v k ov) (hx : ov[i]? = some x) (h2 : x.2 = .slice (some ⟨g2, 0, none⟩) l2 c2) (hl : l2 = x.1.2.length) (hj : x.1.2[j]? = some nd) : wr.cell? ⟨g2, j * 7, none⟩ = some (.int .i64 nd.op) ∧ wr.cell? ⟨g2, j * 7 + 2, none⟩ = some (.string nd.tx) ∧ wr.frozen? ⟨g2, j * 7 + 2, none⟩ = false := by
  subst hl
  have ho := h.o.e x (List.mem_of_getElem? hx)
  rw [h2] at ho
  have hb := own_ndl (xs := []) (by rw [List.append_nil]; exact ho) j nd hj
  have q0 := hb.c0
  have q2 := hb.c2
  rw [Nat.zero_add] at q0 q2
  exact ⟨q0, q2, ho.frozenAt _⟩
theorem rk_ov {ov : List Rg} {gs : GL} {r i k : Nat} {a b : ByteArray} {g : ByteArray × List Nd} (hm : ov.map (·.1) = rkG gs r a b i k) (hg : gs[i]? = some g) : ∃ x, ov[i]? = some x ∧ x.1 = (if i = r then b else g.1, mxB (reN a b) g.2 k) := by
  have h := rk_at (r := r) (a := a) (b := b) (k := k) hg
  rw [← hm, List.getElem?_map] at h
  cases hx : ov[i]? with
  | none => rw [hx] at h; cases h
  | some x => rw [hx] at h; exact ⟨x, rfl, by simpa using h⟩
theorem mx_at {f : Nd → Nd} {L : List Nd} {k : Nat} {n : Nd} (h : L[k]? = some n) : (mxB f L k)[k]? = some n := by rw [mx_get, h, Option.map_some, if_neg (Nat.lt_irrefl k)]
theorem rnE_zero {gs : GL} {r : Int} {s : ByteArray} (h : rnE gs r s = 0) : lkR gs r = 0 ∧ nmB s = true ∧ (fdN gs s = -1 ∨ fdN gs s = r) := by
  unfold rnE at h
  by_cases h1 : lkR gs r ≠ 0
  · rw [if_pos h1] at h; exact absurd h h1
  · rw [if_neg h1] at h
    have h1 : lkR gs r = 0 := Classical.byContradiction h1
    by_cases h2 : nmB s = false
    · rw [if_pos h2] at h; exact absurd h (by decide)
    · rw [if_neg h2] at h
      by_cases h3 : fdN gs s ≥ 0 ∧ fdN gs s ≠ r
      · rw [if_pos h3] at h; exact absurd h (by decide)
      · refine ⟨h1, by simpa using h2, ?_⟩
        cases hf : fdG gs s with
        | none => exact .inl (fdN_none hf)
        | some i =>
          rw [fdN_some hf] at h3 ⊢
          exact .inr (Classical.byContradiction fun q => h3 ⟨by omega, q⟩)
theorem rt_sizes {gs : GL} (h : RtG gs) : ∀ g ∈ gs, g.2 ≠ [] ∧ g.2.length ≤ 2048 := fun g hg => by
  have h1 := (rt_of (h.ck g hg)).len
  have h2 := (rt_of (h.ck g hg)).one
  refine ⟨fun q => ?_, by omega⟩
  rw [q] at h2
  simp [run] at h2
end Go.Proofs.Ytppggnmlbcdegaa.N

namespace Go.Proofs.Ytppggnmlbcdegaa.N
open Go.RowKit Go.Maps
open Go.Proofs.Ytppggnmlbcdegaa.T
/-- A call of three slots, as one step of a region that draws its order. -/
theorem step_call3 {F : Nat} (hen : ∀ args w, (callFunc F args).run Try.prog w = .ok (.enter F args) w) {ops : Array Oper} {o : Oper} {a : Act} {w : World} {K : Act → World → Prop} {Q : Exit → Act → World → Prop} {E : Prop} (hgd : o.guard = none) (x y z : Nat) (T U V : TypeId) (ho : o.op = .call { callee := .value (.func F), args := #[.tmp x, .tmp y, .tmp z], argTypes := #[T, U, V] }) (u v t : Value) (hx : a.eval (.tmp x) = u) (hy : a.eval (.tmp y) = v) (hz : a.eval (.tmp z) = t)
    (hc : Calls Try.prog F #[u, v, t] w fun e w' => ∃ r, e = .returned r ∧ K (a.put o.dst r) w') :
    if Region.wanted o (yielded ops a.tmps) = true then Oper.wp Try.prog o a w K Q else E := by
  have hw : Region.wanted o (yielded ops a.tmps) = true := by simp [Region.wanted, hgd]
  rw [if_pos hw]
  have he : (execOp a.eval o).run Try.prog w = .ok (.enter F #[u, v, t]) w := by
    have hx2 : a.tmps[x]?.getD undef = u := by simpa [Act.eval] using hx
    have hy2 : a.tmps[y]?.getD undef = v := by simpa [Act.eval] using hy
    have hz2 : a.tmps[z]?.getD undef = t := by simpa [Act.eval] using hz
    unfold execOp
    simp [ho, go_sem, invoke, hen]
    exact ⟨hx2, hy2, hz2⟩
  unfold Oper.wp
  rw [he, Oper.upon_enter]
  refine hc.mono ?_
  rintro e w' ⟨r, rfl, hk⟩
  exact hk
theorem enters52 (args : Array Value) (w : World) : (callFunc 52 args).run Try.prog w = .ok (.enter 52 args) w := enters_of Try.func52 (by kernel_rfl) rfl args w
theorem OG.base {W : World} {B B2 : Nat} {v : Value} {ov : List Rg} (h : OG W B v ov) (hb : B2 ≤ B) : OG W B2 v ov := ⟨T.own_base h.o hb, fun x hx => T.own_base (h.e x hx) hb, h.ap⟩
set_option maxRecDepth 100000 in
set_option maxHeartbeats 16000000 in
theorem renameP_yes (gs : GL) (A : Option Addr) (c : Nat) (r : Nat) (s : ByteArray) (hs : s.size ≤ 140737488355328) (w : World) (hp : GI w A gs) (h0 : rnE gs (r : Int) s = 0) :
    Calls Try.prog 28 #[.agg #[.slice A gs.length c], .int .i64 (r : Int), .string s] w fun e w' => RnA w w' e gs (r : Int) s ∧ Below w.heap.size w w' := by
  obtain ⟨hlk, hnm, hfd⟩ := rnE_zero h0
  obtain ⟨hR, _, hr1⟩ := lkR_zero hlk
  have hr : r < gs.length := by omega
  obtain ⟨g0, hg0⟩ : ∃ g0, gs[r]? = some g0 := ⟨_, List.getElem?_eq_getElem hr⟩
  have HEn := (show Hid (rnG gs (r : Int) s = gs.map (rnR g0.1 s)) from by show rnG gs (r : Int) s = _; rw [rnR_reG hR.dn hg0 rfl]; unfold rnG; rw [if_pos h0, Int.toNat_natCast, hg0]; rfl)
  have HE0 := (show Hid (rnE gs (r : Int) s = 0) from h0)
  have HA := (show Hid (RnS w ((w.alloc (.cells #[.slice A gs.length c] 24)).alloc (.cells #[.slice none 0 0] 24)) (.slice A gs.length c)) from RnS.mk2 _ _)
  have HNb := (show Hid (∀ W, Below w.heap.size w W → Calls Try.prog 51 #[.agg #[.slice A gs.length c], .int .i64 (r : Int)] W fun e w' => (∃ B, e = .returned (.tuple #[.map (some B), .int .i64 0]) ∧ NmM w' B gs) ∧ Below W.heap.size W w') from fun W hW => by
    refine (numbW_any gs A c (r : Int) W (hp.later hW)).mono ?_
    rintro e w' ⟨⟨mv, rfl, hm⟩, hb⟩
    obtain ⟨B, _, rfl, hM⟩ := hm hlk
    exact ⟨⟨B, by rw [hlk], hM⟩, hb⟩)
  have HNm := (show Hid (∀ W, Calls Try.prog 13 #[.string s] W fun e w' => e = .returned (.bool true) ∧ Below W.heap.size W w') from fun W => by rw [← hnm]; exact nameP_any s hs W)
  have H52 := (show Hid (∀ W, Below w.heap.size w W → Calls Try.prog 52 #[.agg #[.slice A gs.length c], .string g0.1, .string s] W fun e w' => (∃ v ov, e = .returned (.agg #[v]) ∧ ov.map (·.1) = gs.map (rnR g0.1 s) ∧ OG w' W.heap.size v ov) ∧ Below W.heap.size W w') from fun W hW => renamed_any gs A c g0.1 s (by omega) W (hp.later hW) hR.n2 (rt_sizes hR))
  obtain ⟨b, o, A2, c2, rfl, lb, e0, _, _⟩ := hp.d r g0 hg0
  have HB0 := (show Hid (∀ W, Below w.heap.size w W → W.cell? ⟨b, o + r * 2, none⟩ = some (.string g0.1)) from fun W hW => (hW.cell (p := ⟨b, o + r * 2, none⟩) lb).trans e0)
  have z0 : (0 : Int) ≤ (r : Int) := by omega
  have z1 : (r : Int) < (gs.length : Int) := by omega
  have q1 := HA.out.x.cl
  have HFd := (show Hid (fdG gs s = none ∨ fdG gs s = some r) from by
    cases hf : fdG gs s with
    | none => exact .inl rfl
    | some i =>
      rw [fdN_some hf] at hfd
      refine .inr ?_
      rcases hfd with q | q
      · omega
      · rw [show i = r by omega])
  have HSz := (show Hid (s.size ≤ 140737488355328) from hs)
  obtain ⟨nm0, hnm0⟩ : ∃ nm0, nm0 = g0.1 := ⟨_, rfl⟩
  rw [← hnm0] at HEn HB0 H52
  clear hp h0 hlk hnm hr1 hR e0 lb hg0 hs hfd hr hnm0
  go_enter Try.func28, Try.ntmps28
  go_wp2_with fail
  generalize (w.alloc (.cells #[.slice (some ⟨b, o, none⟩) gs.length c] 24)).alloc (.cells #[.slice none 0 0] 24) = w1 at *
  go_wp2_with fail
  refine (HNb.out _ HA.out.b).mono ?_
  rintro e w2 ⟨⟨B, rfl, hM⟩, b2⟩
  have HA2 := (show Hid (RnS w w2 (.slice (some ⟨b, o, none⟩) gs.length c)) from HA.out.later b2)
  have HM := (show Hid (NmM w2 B gs) from hM)
  clear HA q1 HNb b2 hM
  go_wp2_with fail
  refine (HNm.out _).mono ?_
  rintro e w3 ⟨rfl, b3⟩
  have HA3 := (show Hid (RnS w w3 (.slice (some ⟨b, o, none⟩) gs.length c)) from HA2.out.later b3)
  have HM3 := (show Hid (NmM w3 B gs) from HM.out.same (b3.block B HM.out.lt))
  clear HA2 HM b3 HNm
  have hD : Below w3.heap.size w3 w3.drew := (Below.refl _ _).drew
  have HAd := (show Hid (RnS w w3.drew (.slice (some ⟨b, o, none⟩) gs.length c)) from HA3.out.later hD)
  have q4 := HAd.out.x.cl
  have q5 := HB0.out _ HAd.out.b
  have HCall := (show Hid (∀ _ : Unit, Calls Try.prog 52 #[.agg #[.slice (some ⟨b, o, none⟩) gs.length c], .string nm0, .string s] w3.drew fun e w' => (∃ Av nv cv ov, e = .returned (.agg #[.slice Av nv cv]) ∧ ov.map (·.1) = gs.map (rnR nm0 s) ∧ OG w' w.heap.size (.slice Av nv cv) ov) ∧ RnS w w' (.slice (some ⟨b, o, none⟩) gs.length c)) from fun _ => by
    refine (H52.out _ HAd.out.b).mono ?_
    rintro e w' ⟨⟨v, ov, rfl, h1, h2⟩, hb⟩
    obtain ⟨Av, cv, rfl⟩ := own_sl h2.o
    exact ⟨⟨Av, _, cv, ov, rfl, h1, h2.base HAd.out.b.size⟩, HAd.out.later hb⟩)
  clear H52 HB0 HA3 hD
  obtain ⟨c0, hrun, hc0⟩ := HM3.out.look s HSz.out
  rcases HFd.out with hf | hf
  · rw [hf, Option.isSome_none] at hrun
    clear HM3 hf hc0 HFd
    go_wp2_with fail
    go_region_law (refine step_call3 enters52 rfl _ _ _ _ _ _ (by rfl) (.agg #[.slice (some ⟨b, o, none⟩) gs.length c]) (.string nm0) (.string s) (by rfl) (by rfl) (by rfl) ?_; with_reducible refine (HCall.out ()).mono ?_; rintro e w4 ⟨⟨Av, nv, cv, ov, rfl, h1, h2⟩, h3⟩; refine ⟨_, rfl, ?_⟩; have hyf := h3.y.fz; have hyc := h3.y.cl)
    all_goals
      go_wp2_with fail
      refine ret_gx2 (x := .int .i64 0) rfl rfl rfl rfl (h3.y.set _) ?_
      have key : ∀ (j : Nat), j ≠ w.heap.size + 1 → (w4.setCell ⟨w.heap.size + 1, 0, none⟩ (.slice Av nv cv)).heap[j]? = w4.heap[j]? := fun j hj => Below.heap_setCell _ _ _ _ hj
      exact ⟨⟨_, ov, by rw [HE0.out], by rw [h1, HEn.out], h2.same fun j hj => key j (h2.ne h3.y hj)⟩, h3.b.setCell (p := ⟨w.heap.size + 1, 0, none⟩) (by show w.heap.size ≤ w.heap.size + 1; omega) _⟩
  · have hc1 := hc0 r hf
    subst hc1
    rw [hf, Option.isSome_some] at hrun
    have ti : ((r : Int) != (r : Int)) = false := by simp
    clear HM3 hf hc0 HFd
    go_wp2_with fail
    go_region_law (refine step_call3 enters52 rfl _ _ _ _ _ _ (by rfl) (.agg #[.slice (some ⟨b, o, none⟩) gs.length c]) (.string nm0) (.string s) (by rfl) (by rfl) (by rfl) ?_; with_reducible refine (HCall.out ()).mono ?_; rintro e w4 ⟨⟨Av, nv, cv, ov, rfl, h1, h2⟩, h3⟩; refine ⟨_, rfl, ?_⟩; have hyf := h3.y.fz; have hyc := h3.y.cl)
    all_goals
      go_wp2_with fail
      refine ret_gx2 (x := .int .i64 0) rfl rfl rfl rfl (h3.y.set _) ?_
      have key : ∀ (j : Nat), j ≠ w.heap.size + 1 → (w4.setCell ⟨w.heap.size + 1, 0, none⟩ (.slice Av nv cv)).heap[j]? = w4.heap[j]? := fun j hj => Below.heap_setCell _ _ _ _ hj
      exact ⟨⟨_, ov, by rw [HE0.out], by rw [h1, HEn.out], h2.same fun j hj => key j (h2.ne h3.y hj)⟩, h3.b.setCell (p := ⟨w.heap.size + 1, 0, none⟩) (by show w.heap.size ≤ w.heap.size + 1; omega) _⟩
end Go.Proofs.Ytppggnmlbcdegaa.N

namespace Go.Proofs.Ytppggnmlbcdegaa.N
open Go.RowKit Go.Maps
open Go.Proofs.Ytppggnmlbcdegaa.T
set_option maxRecDepth 100000 in
set_option maxHeartbeats 32000000 in
theorem renameD_yes (gs : GL) (A : Option Addr) (c : Nat) (r : Nat) (s : ByteArray) (hs : s.size ≤ 140737488355328) (w : World) (hp : GI w A gs) (h0 : rnE gs (r : Int) s = 0) :
    Calls Try.prog 29 #[.agg #[.slice A gs.length c], .int .i64 (r : Int), .string s] w fun e w' => RnA w w' e gs (r : Int) s ∧ Below w.heap.size w w' := by
  obtain ⟨hlk, hnm, hfd⟩ := rnE_zero h0
  obtain ⟨hR, _, hr1⟩ := lkR_zero hlk
  have hr : r < gs.length := by omega
  obtain ⟨g0, hg0⟩ : ∃ g0, gs[r]? = some g0 := ⟨_, List.getElem?_eq_getElem hr⟩
  have HEn := (show Hid (rnG gs (r : Int) s = reG gs r g0.1 s) from by show rnG gs (r : Int) s = _; unfold rnG; rw [if_pos h0, Int.toNat_natCast, hg0]; rfl)
  have HE0 := (show Hid (rnE gs (r : Int) s = 0) from h0)
  have HA := (show Hid (RnS w ((w.alloc (.cells #[.slice A gs.length c] 24)).alloc (.cells #[.slice none 0 0] 24)) (.slice A gs.length c)) from RnS.mk2 _ _)
  have HLk := (show Hid (∀ W, Below w.heap.size w W → Calls Try.prog 40 #[.agg #[.slice A gs.length c], .int .i64 (r : Int)] W fun e w' => e = .returned (.int .i64 0) ∧ Below W.heap.size W w') from fun W hW => by rw [← hlk]; exact lookD_any gs A c (r : Int) W (hp.later hW))
  have HNm := (show Hid (∀ W, Calls Try.prog 14 #[.string s] W fun e w' => e = .returned (.bool true) ∧ w' = W) from fun W => by rw [← hnm]; exact nameR_any s hs W)
  have HFd := (show Hid (∀ W, Below w.heap.size w W → Calls Try.prog 35 #[.agg #[.slice A gs.length c], .string s] W fun e w' => e = .returned (.int .i64 (fdN gs s)) ∧ Below W.heap.size W w') from fun W hW => find_any gs A c s W (hp.later hW))
  have HCp := (show Hid (∀ W, Below w.heap.size w W → Calls Try.prog 53 #[.agg #[.slice A gs.length c]] W fun e w' => (∃ v ov, e = .returned (.agg #[v]) ∧ ov.map (·.1) = gs ∧ OG w' W.heap.size v ov) ∧ Below W.heap.size W w') from fun W hW => copyG_any gs A c W (hp.later hW).d hR.n2 (rt_sizes hR))
  obtain ⟨b, o, A2, c2, rfl, lb, e0, _, _⟩ := hp.d r g0 hg0
  have HB0 := (show Hid (∀ W, Below w.heap.size w W → W.cell? ⟨b, o + r * 2, none⟩ = some (.string g0.1)) from fun W hW => (hW.cell (p := ⟨b, o + r * 2, none⟩) lb).trans e0)
  have HG := (show Hid (∀ k, k < gs.length → ∃ g, gs[k]? = some g ∧ 0 < g.2.length ∧ g.2.length ≤ 2048) from fun k hk => ⟨_, List.getElem?_eq_getElem hk, List.length_pos_iff.2 (rt_sizes hR _ (List.getElem_mem hk)).1, (rt_sizes hR _ (List.getElem_mem hk)).2⟩)
  have HG0 := (show Hid (gs[r]? = some g0) from hg0)
  have hn2 := hR.n2
  have z0 : (0 : Int) ≤ (r : Int) := by omega
  have z1 : (r : Int) < (gs.length : Int) := by omega
  have q1 := HA.out.x.cl
  obtain ⟨nm0, hnm0⟩ : ∃ nm0, nm0 = g0.1 := ⟨_, rfl⟩
  rw [← hnm0] at HEn HB0
  clear hp h0 hlk hnm hr1 hR e0 lb hg0 hs hnm0
  generalize fdN gs s = kk at *
  go_enter Try.func29, Try.ntmps29
  go_wp2_with fail
  generalize (w.alloc (.cells #[.slice (some ⟨b, o, none⟩) gs.length c] 24)).alloc (.cells #[.slice none 0 0] 24) = w1 at *
  go_wp2_with fail
  refine (HLk.out _ HA.out.b).mono ?_
  rintro e w2 ⟨rfl, b2⟩
  have HA2 := (show Hid (RnS w w2 (.slice (some ⟨b, o, none⟩) gs.length c)) from HA.out.later b2)
  clear HA q1 HLk b2
  go_wp2_with fail
  refine (HNm.out _).mono ?_
  rintro e w3 ⟨rfl, rfl⟩
  have q2 := HA2.out.x.cl
  clear HNm
  go_wp2_with fail
  refine (HFd.out _ HA2.out.b).mono ?_
  rintro e w4 ⟨rfl, b4⟩
  have HA4 := (show Hid (RnS w w4 (.slice (some ⟨b, o, none⟩) gs.length c)) from HA2.out.later b4)
  have q4 := HA4.out.x.cl
  have q5 := HB0.out _ HA4.out.b
  clear HA2 b4 HFd q2 HB0
  rcases hfd with rfl | rfl
  all_goals
    go_wp2_with fail
    refine (HCp.out _ HA4.out.b).mono ?_
    rintro e w5 ⟨⟨v, ov0, rfl, hm0, hO0⟩, b5⟩
    have hol : ov0.length = gs.length := by rw [← hm0, List.length_map]
    obtain ⟨g, cap, e5, _⟩ := hO0.o.form (by omega)
    rw [hol] at e5
    subst e5
    obtain ⟨x0, hx0⟩ : ∃ x0, ov0[r]? = some x0 := ⟨_, List.getElem?_eq_getElem (by omega)⟩
    have h9 : x0.1 = g0 := by
      have := HG0.out
      rw [← hm0, List.getElem?_map, hx0] at this
      simpa using this
    have HS := (show Hid (RdS w (w5.alloc (.cells #[.slice (some ⟨g, 0, none⟩) gs.length cap] 24)) (.slice (some ⟨g, 0, none⟩) gs.length cap) w5.heap.size ov0) from by
      have ha := HA4.out.later b5
      have ob : OG w5 w.heap.size (.slice (some ⟨g, 0, none⟩) gs.length cap) ov0 := ⟨T.own_base hO0.o HA4.out.b.size, fun x hx => T.own_base (hO0.e x hx) HA4.out.b.size, hO0.ap⟩
      exact ⟨ob.later (below_box _ _), ha.b.alloc ha.b.size _, ha.y.below (below_box _ _), GX.mk (heap_alloc_new w5 _)⟩)
    have HS1 := (show Hid (RdS w ((w5.alloc (.cells #[.slice (some ⟨g, 0, none⟩) gs.length cap] 24)).setCell ⟨g, r * 2, none⟩ (.string s)) (.slice (some ⟨g, 0, none⟩) gs.length cap) w5.heap.size (ov0.set r ((s, x0.1.2), x0.2))) from HS.out.name hol.symm hx0 s)
    have HM1 := (show Hid ((ov0.set r ((s, x0.1.2), x0.2)).map (·.1) = rkG gs r nm0 s 0 0) from by
      show List.map _ _ = _
      rw [List.map_set, hm0, h9]
      exact rk_start HG0.out)
    obtain ⟨w6, hw6⟩ : ∃ w6, w6 = w5.alloc (.cells #[.slice (some ⟨g, 0, none⟩) gs.length cap] 24) := ⟨_, rfl⟩
    have HE6 := (show Hid (w5.alloc (.cells #[.slice (some ⟨g, 0, none⟩) gs.length cap] 24) = w6) from hw6.symm)
    rw [← hw6] at HS HS1
    have f0 := (HS.out.o.cell hx0).1
    have f1 := (show World.ownsRow _ w.heap.size 57 2 (.slice (some ⟨g, 0, none⟩) gs.length cap) gs.length (rgc ov0) from by have h := HS.out.o.o; rw [hol] at h; exact h).frozenAt (r * 2)
    have f2 := HS.out.z.cl
    clear hm0 hO0 b5 HA4 HCp hol hx0 h9 q4 HG0 hw6
    go_wp2_with (rw [HE6.out])
    clear HE6 q5
    generalize w6.setCell ⟨g, r * 2, none⟩ (.string s) = w7 at *
    generalize w5.heap.size = kb at *
    clear f0 f1 f2 HS
    generalize ov0.set r ((s, x0.1.2), x0.2) = ov1 at *
    go_loopw [12] (fun t wr => ∃ (i : Nat) (ov : List Rg), i ≤ gs.length ∧ t = .int .i64 (i : Int) ∧ Hid (ov.map (·.1) = rkG gs r nm0 s i 0) ∧ Hid (RdS w wr (.slice (some ⟨g, 0, none⟩) gs.length cap) kb ov)) (fun t _ => gs.length - (intOf t).toNat)
    case atStart => exact ⟨0, ov1, Nat.zero_le _, by go_num, HM1, HS1⟩
    case round =>
      obtain ⟨i, ov, hi, rfl, HM, HW⟩ := hrel
      clear HS1 HM1
      have f2 := HW.out.z.cl
      by_cases hlt : i < gs.length
      · obtain ⟨gi, hgi, hgp, hgl⟩ := HG.out i hlt
        have y0 : (0 : Int) ≤ (i : Int) := by omega
        have y1 : (i : Int) < (gs.length : Int) := by omega
        have HGi := (show Hid (gs[i]? = some gi) from hgi)
        have HGp := (show Hid (0 < gi.2.length) from hgp)
        obtain ⟨LL, hLL⟩ : ∃ LL, LL = gi.2.length := ⟨_, rfl⟩
        have HLL := (show Hid (LL = gi.2.length) from hLL)
        have hl3 : LL ≤ 2048 := by omega
        clear hgi hgp hgl hLL
        go_wp2_with fail
        go_loopw [13] (fun t wr => ∃ (k : Nat) (ov : List Rg), k ≤ LL ∧ t = .int .i64 (k : Int) ∧ Hid (ov.map (·.1) = rkG gs r nm0 s i k) ∧ Hid (RdS w wr (.slice (some ⟨g, 0, none⟩) gs.length cap) kb ov)) (fun t _ => LL - (intOf t).toNat)
        case atStart => exact ⟨0, ov, Nat.zero_le _, by go_num, HM, HW⟩
        case round =>
          obtain ⟨k, ov2, hk, rfl, HM2, HW2⟩ := hrel
          clear HM HW f2
          have f2 := HW2.out.z.cl
          obtain ⟨x, hx, hx1⟩ := rk_ov HM2.out HGi.out
          have hxl : x.1.2.length = LL := by rw [hx1, HLL.out]; exact mx_len
          obtain ⟨g2, c2, hx2, f3⟩ := HW2.out.row hx (by rw [hxl, HLL.out]; exact HGp.out)
          rw [hxl] at f3 hx2
          by_cases hkl : k < LL
          · obtain ⟨nd, hnd⟩ : ∃ nd, gi.2[k]? = some nd := ⟨_, List.getElem?_eq_getElem (by rw [← HLL.out]; exact hkl)⟩
            have hxn : x.1.2[k]? = some nd := by rw [hx1]; exact mx_at hnd
            obtain ⟨f4, f5, f6⟩ := HW2.out.nd hx hx2 hxl.symm hxn
            have u0 : (0 : Int) ≤ (k : Int) := by omega
            have u1 : (k : Int) < (LL : Int) := by omega
            have HNx := (show Hid (¬ (nd.op = 6 ∧ nd.tx = nm0) → rkG gs r nm0 s i (k + 1) = rkG gs r nm0 s i k) from fun q => rk_same HGi.out hnd (by unfold reN; rw [if_neg q]))
            have HNy := (show Hid ((nd.op = 6 ∧ nd.tx = nm0) → (ov2.set i ((x.1.1, x.1.2.set k { nd with tx := s }), x.2)).map (·.1) = rkG gs r nm0 s i (k + 1)) from fun q => by
              rw [List.map_set, HM2.out, rk_set HGi.out hnd, hx1]
              unfold reN
              rw [if_pos q])
            have HNz := (show Hid (RdS w (wr.setCell ⟨g2, k * 7 + 2, none⟩ (.string s)) (.slice (some ⟨g, 0, none⟩) gs.length cap) kb (ov2.set i ((x.1.1, x.1.2.set k { nd with tx := s }), x.2))) from HW2.out.text hx hx2 hxl.symm hxn s)
            clear hx hx1 hxl hx2 hxn hnd
            by_cases h6 : nd.op = 6
            · have t6 : (nd.op == 6) = true := by rw [h6]; rfl
              by_cases ht : nd.tx = nm0
              · have te := te_of ht
                have HNq := (show Hid _ from HNy.out ⟨h6, ht⟩)
                clear h6 ht HNx HNy
                go_wp2_with fail
                go_roundw
                case rel => exact ⟨k + 1, _, by omega, by go_num, HNq, HNz⟩
                case measure => simp [intOf]; omega
              · have te := te_no ht
                have HNq := (show Hid (ov2.map (·.1) = rkG gs r nm0 s i (k + 1)) from HM2.out.trans (HNx.out (fun q => ht q.2)).symm)
                clear h6 ht HNx HNy HNz
                go_wp2_with fail
                go_roundw
                case rel => exact ⟨k + 1, _, by omega, by go_num, HNq, HW2⟩
                case measure => simp [intOf]; omega
            · have t6 : (nd.op == 6) = false := by rw [beq_eq_false_iff_ne]; exact h6
              have HNq := (show Hid (ov2.map (·.1) = rkG gs r nm0 s i (k + 1)) from HM2.out.trans (HNx.out (fun q => h6 q.1)).symm)
              clear h6 HNx HNy HNz
              go_wp2_with fail
              go_roundw
              case rel => exact ⟨k + 1, _, by omega, by go_num, HNq, HW2⟩
              case measure => simp [intOf]; omega
          · have HNq := (show Hid (ov2.map (·.1) = rkG gs r nm0 s (i + 1) 0) from by
              have e : k = gi.2.length := by have := HLL.out; omega
              have h := HM2.out
              rw [e, rk_next HGi.out] at h
              exact h)
            clear hx hx1 hxl hx2
            obtain rfl : k = LL := by omega
            go_wp2_with fail
            go_roundw
            case rel => exact ⟨i + 1, _, by omega, by go_num, HNq, HW2⟩
            case measure => simp [intOf]; omega
      · obtain rfl : i = gs.length := by omega
        have HMm := (show Hid (ov.map (·.1) = reG gs r nm0 s) from by rw [← rk_end]; exact HM.out)
        have hyf := HW.out.y.fz
        have hyc := HW.out.y.cl
        clear HG HM
        go_wp2_with fail
        refine ret_gx2 (x := .int .i64 0) rfl rfl rfl rfl (HW.out.y.set _) ?_
        have h5 := HW.out
        have key : ∀ (j : Nat), j ≠ w.heap.size + 1 → (wr.setCell ⟨w.heap.size + 1, 0, none⟩ (.slice (some ⟨g, 0, none⟩) gs.length cap)).heap[j]? = wr.heap[j]? := fun j hj => Below.heap_setCell _ _ _ _ hj
        exact ⟨⟨_, ov, by rw [HE0.out], by rw [HMm.out, HEn.out], h5.o.same fun j hj => key j (h5.o.ne h5.y hj)⟩, h5.b.setCell (p := ⟨w.heap.size + 1, 0, none⟩) (by show w.heap.size ≤ w.heap.size + 1; omega) _⟩
end Go.Proofs.Ytppggnmlbcdegaa.N

namespace Go.Proofs.Ytppggnmlbcdegaa.N
open Go.RowKit
open Go.Proofs.Ytppggnmlbcdegaa.T (below_box)
set_option maxRecDepth 100000 in
set_option maxHeartbeats 4000000 in
theorem keptq (A : Option Addr) (c g cap B : Nat) (L : List Nd) (hl : L.length * 64 ≤ 140737488351232) (w : World) (h : T.RdN w A L) (ho : T.LentR w B g cap L) :
    Calls Try.prog 38 #[.slice (some ⟨g, 0, none⟩) L.length cap, .slice A L.length c] w fun e w' => e = .returned (.bool true) ∧ ∃ m, w' = w.drewN m := by
  have HS : Hid (∀ _ : Unit, Calls Try.prog 54 #[.slice (some ⟨g, 0, none⟩) L.length cap, .slice A L.length c] w fun e w' => e = .returned (.bool true) ∧ ∃ m, w' = w.drewN m) := fun _ => sameq (some ⟨g, 0, none⟩) A cap c L (by omega) w ho.rd h
  have hcap := T.own_cap ho
  have HO := (show Hid (∀ w', Below w.heap.size w w' → T.NB w' g (L.length * 7) (T.zN (-77))) from fun w' hb => (ho.below hb).last)
  clear ho h
  have z0 : (0 : Int) ≤ (L.length : Int) := by omega
  have z1 : (L.length : Int) + 1 ≤ (cap : Int) := by omega
  have z2 : (L.length : Int) < (L.length : Int) + 1 := by omega
  have hq := T.node_eql (T.zN (-77)) (T.zN (-77))
  rw [T.ndE_refl] at hq
  generalize L.length = n at *
  go_enter Try.func38, Try.ntmps38
  go_wp2_with fail
  refine (HS.out ()).mono ?_
  rintro e w1 ⟨rfl, hb⟩
  obtain ⟨c0, c1, c2, c3, c4, c5, c6⟩ := HO.out w1 (by obtain ⟨m, rfl⟩ := hb; exact T.below_drewN (Below.refl _ _) _)
  have HB := (show Hid _ from hb)
  clear hb HS HO
  unfold T.zN at c0 c1 c2 c3 c4 c5 c6 hq
  dsimp only at c0 c1 c2 c3 c4 c5 c6
  go_wp2_with fail
  go_ret
  exact ⟨rfl, HB.out⟩
/-- While a grammar that was lent is held against what it was. -/
structure AtK (w0 w wr : World) (u1 u2 : Value) (A : Option Addr) (gs : List (ByteArray × List Nd)) (g cap : Nat) (ov : List Le) : Prop where
  b : Below w.heap.size w wr
  x1 : GX wr w.heap.size u1
  x2 : GX wr (w.heap.size + 1) u2
  l : LgB w0 wr g cap ov
  d : GrD wr A gs
theorem AtK.later {w0 w wr W' : World} {u1 u2 : Value} {A : Option Addr} {gs : List (ByteArray × List Nd)} {g cap : Nat} {ov : List Le} (h : AtK w0 w wr u1 u2 A gs g cap ov) (hb : Below wr.heap.size wr W') : AtK w0 w W' u1 u2 A gs g cap ov :=
  ⟨h.b.trans (hb.mono h.b.size), h.x1.below hb, h.x2.below hb, h.l.later hb, h.d.later hb⟩
set_option maxRecDepth 100000 in
set_option maxHeartbeats 8000000 in
theorem keptG_any {gs : List (ByteArray × List Nd)} {ov : List Le} (hm : ov.map (·.1) = gs) (hl : ∀ g ∈ gs, g.2.length * 64 ≤ 140737488351232) (hn : gs.length * 40 ≤ 140737488351232) {w0 w : World} {A : Option Addr} {c g cap : Nat} (h1 : LgB w0 w g cap ov) (h2 : GrD w A gs) :
    Calls Try.prog 15 #[.agg #[.slice (some ⟨g, 0, none⟩) gs.length cap], .agg #[.slice A gs.length c]] w fun e w' => e = .returned (.bool true) ∧ Below w.heap.size w w' := by
  have hov : ov.length = gs.length := by rw [← hm, List.length_map]
  have HA := (show Hid (AtK w0 w ((w.alloc (.cells #[.slice (some ⟨g, 0, none⟩) gs.length cap] 24)).alloc (.cells #[.slice A gs.length c] 24)) (.slice (some ⟨g, 0, none⟩) gs.length cap) (.slice A gs.length c) A gs g cap ov) from
    ⟨((Below.refl _ _).alloc (Nat.le_refl _) _).alloc (by rw [World.size_alloc]; omega) _, (GX.mk (heap_alloc_new w _)).below (below_box _ _), ⟨by have h := heap_alloc_new (w.alloc (.cells #[.slice (some ⟨g, 0, none⟩) gs.length cap] 24)) (.cells #[.slice A gs.length c] 24); rw [World.size_alloc] at h; exact h⟩, (h1.later (below_box _ _)).later (below_box _ _), (h2.later (below_box _ _)).later (below_box _ _)⟩)
  have hcap : gs.length + 1 ≤ cap := by rw [← hov]; exact T.own_cap h1.o
  have HG := (show Hid (∀ k, k < gs.length → ∃ x, ov[k]? = some x ∧ gs[k]? = some x.1 ∧ x ∈ ov ∧ x.1.2.length * 64 ≤ 140737488351232) from fun k hk => by
    obtain ⟨x, e⟩ : ∃ x, ov[k]? = some x := ⟨_, List.getElem?_eq_getElem (by omega)⟩
    have e2 : gs[k]? = some x.1 := by rw [← hm, List.getElem?_map, e]; rfl
    exact ⟨x, e, e2, List.mem_of_getElem? e, hl _ (List.mem_of_getElem? e2)⟩)
  have q1 := HA.out.x1.cl
  have q2 := HA.out.x2.cl
  have q3 := HA.out.l.last
  rw [hov] at q3
  have z0 : (0 : Int) ≤ (gs.length : Int) := by omega
  have z1 : (gs.length : Int) + 1 ≤ (cap : Int) := by omega
  have z2 : (gs.length : Int) < (gs.length : Int) + 1 := by omega
  clear hl hm h1 h2 hov hcap
  generalize gs.length = n at *
  go_enter Try.func15, Try.ntmps15
  go_wp2_with fail
  generalize (w.alloc (.cells #[.slice (some ⟨g, 0, none⟩) n cap] 24)).alloc (.cells #[.slice A n c] 24) = w1 at *
  go_wp2_with fail
  clear q1 q2 q3
  go_loopw [6] (fun t wr => ∃ k : Nat, k ≤ n ∧ t = .int .i64 k ∧ Hid (AtK w0 w wr (.slice (some ⟨g, 0, none⟩) n cap) (.slice A n c) A gs g cap ov)) (fun t _ => n - (intOf t).toNat)
  case atStart => exact ⟨0, by omega, by go_num, HA⟩
  case round =>
    obtain ⟨k, hk, rfl, HW⟩ := hrel
    clear HA
    have q1 := HW.out.x1.cl
    have q2 := HW.out.x2.cl
    by_cases hlt : k < n
    · obtain ⟨x, hx, hgx, hxm, hxl⟩ := HG.out k hlt
      obtain ⟨y0, y1⟩ := HW.out.l.cell hx
      obtain ⟨b2, o2, B2, d2, hA2, l2, x0, x1, r2⟩ := HW.out.d k _ hgx
      subst hA2
      have HS : Hid (∀ n, Calls Try.prog 38 #[.slice (some ⟨x.2.1, 0, none⟩) x.1.2.length x.2.2, .slice B2 x.1.2.length d2] (wr.drewN n) fun e w' => e = .returned (.bool true) ∧ ∃ m, w' = (wr.drewN n).drewN m) := fun n => keptq B2 d2 x.2.1 x.2.2 w0.heap.size x.1.2 hxl _ (r2.below (T.below_drewN (Below.refl _ _) _) (Nat.le_refl _)) ((HW.out.l.e x hxm).below (T.below_drewN (Below.refl _ _) _))
      have u0 : (0 : Int) ≤ (k : Int) := by omega
      have u1 : (k : Int) < (n : Int) := by omega
      clear HG r2 hx hgx hxm hxl z0 z1 z2
      generalize x.1.2.length = gl at *
      generalize x.1.1 = nm at *
      generalize x.2.1 = xb at *
      generalize x.2.2 = xc at *
      go_wp2_with fail
      go_quiet ((go_at_call 38; exact Calls.quiet_of (HS.out _)))
      have HW2 := (show Hid (AtK w0 w (wr.drewN nq) (.slice (some ⟨g, 0, none⟩) n cap) (.slice (some ⟨b2, o2, none⟩) n c) (some ⟨b2, o2, none⟩) gs g cap ov) from HW.out.later (T.below_drewN (Below.refl _ _) _))
      generalize wr.drewN nq = w2 at *
      clear HW q1 q2 y0 y1 x0 x1
      go_wp2_with fail
      go_roundw
      case rel => exact ⟨k + 1, by omega, by go_num, HW2⟩
      case measure => simp [intOf]; omega
    · obtain rfl : k = n := by omega
      clear HG
      go_wp2_with fail
      go_ret
      exact ⟨rfl, HW.out.b⟩
end Go.Proofs.Ytppggnmlbcdegaa.N

namespace Go.Proofs.Ytppggnmlbcdegaa.N
open Go.RowKit Go.Maps
open Go.Proofs.Ytppggnmlbcdegaa.T
theorem nmB_s : nmB ⟨#[115]⟩ = true := by kernel_rfl
theorem ckG_one : ckG [((⟨#[115]⟩ : ByteArray), [zN 3])] = ((0, 0), 0) := by
  have h1 : c1G [((⟨#[115]⟩ : ByteArray), [zN 3])] 0 0 [((⟨#[115]⟩ : ByteArray), [zN 3])] = ((0, 0), 0) := by
    rw [c1G, if_neg (fun q => q (.inl nmB_s)), if_neg, if_neg (by rw [ck_any1]; decide), if_neg (by show ¬ 2048 < 0 + 1; decide), c1G]
    unfold tw
    have : fdG [((⟨#[115]⟩ : ByteArray), [zN 3])] ⟨#[115]⟩ = some 0 := by rw [fdG, if_pos rfl]
    rw [this]
    decide
  rw [ckG_un (by decide) (by decide) h1, unG_cons]
  have : unN [((⟨#[115]⟩ : ByteArray), [zN 3])] 0 [zN 3] = none := by
    rw [unN_cons, if_neg (by rintro ⟨q, _⟩; exact absurd q (show ¬ (3 : Int) = 6 by decide))]
    rfl
  rw [this]
  rfl
theorem ckG_nil : ckG [] = ((0, 0), 3) := rfl
theorem gi_one (w : World) : GI ((w.alloc (ndO (zN 3))).alloc (.cells #[.string ⟨#[115]⟩, .slice (some ⟨w.heap.size, 0, none⟩) 1 1] 57)) (some ⟨w.heap.size + 1, 0, none⟩) [((⟨#[115]⟩ : ByteArray), [zN 3])] := by
  have hr : RB ((w.alloc (ndO (zN 3))).alloc (.cells #[.string ⟨#[115]⟩, .slice (some ⟨w.heap.size, 0, none⟩) 1 1] 57)) (w.heap.size + 1) ⟨#[115]⟩ (.slice (some ⟨w.heap.size, 0, none⟩) 1 1) := ⟨by
    have h := heap_alloc_new (w.alloc (ndO (zN 3))) (.cells #[.string ⟨#[115]⟩, .slice (some ⟨w.heap.size, 0, none⟩) 1 1] 57)
    rw [World.size_alloc] at h
    exact h⟩
  refine ⟨fun k g hg => ?_, by show 1 ≤ _; omega, fun g hg => ?_⟩
  · cases k with
    | succ k => simp at hg
    | zero =>
      cases hg
      exact ⟨w.heap.size + 1, 0, some ⟨w.heap.size, 0, none⟩, 1, rfl, hr.lt, hr.c0, hr.c1, (rd_one w (zN 3)).below (below_box _ _) (Nat.le_refl _)⟩
  · rw [List.mem_singleton] at hg
    subst hg
    exact ⟨by show 1 ≤ _; omega, one_len _, one_tx 3⟩
theorem gi_nil (w : World) : GI w none [] := ⟨fun k g hg => by simp at hg, by show 0 ≤ _; omega, fun g hg => by cases hg⟩
set_option maxRecDepth 100000 in
set_option maxHeartbeats 4000000 in
theorem lives_any (w : World) : Calls Try.prog 12 #[] w fun e w' => e = .returned (.bool true) ∧ Below w.heap.size w w' := by
  obtain ⟨w2, hw2⟩ : ∃ w2, w2 = (w.alloc (ndO (zN 3))).alloc (.cells #[.string ⟨#[115]⟩, .slice (some ⟨w.heap.size, 0, none⟩) 1 1] 57) := ⟨_, rfl⟩
  have HB2 : Hid (Below w.heap.size w w2) := by show Below _ _ _; rw [hw2]; exact (below_box w _).alloc (below_box w _).size _
  have H1 : Hid (∀ _ : Unit, Calls Try.prog 10 #[.agg #[.slice (some ⟨w.heap.size + 1, 0, none⟩) 1 1]] w2 fun e w' => e = .returned (.tuple #[.agg #[.int .i64 0, .int .i64 0], .int .i64 0]) ∧ Below w2.heap.size w2 w') := fun _ => by
    have h := checkP_any [((⟨#[115]⟩ : ByteArray), [zN 3])] (some ⟨w.heap.size + 1, 0, none⟩) 1 w2 (by rw [hw2]; exact gi_one w)
    rw [ckG_one] at h
    exact h
  have H2 : Hid (∀ W : World, Calls Try.prog 10 #[.agg #[.slice none 0 0]] W fun e w' => e = .returned (.tuple #[.agg #[.int .i64 0, .int .i64 0], .int .i64 3]) ∧ Below W.heap.size W w') := fun W => by
    have h := checkP_any [] none 0 W (gi_nil W)
    rw [ckG_nil] at h
    exact h
  have H3 : Hid (∀ W : World, Calls Try.prog 13 #[.string ⟨#[115]⟩] W fun e w' => e = .returned (.bool true) ∧ Below W.heap.size W w') := fun W => by
    have h := nameP_any ⟨#[115]⟩ (by show 1 ≤ _; omega) W
    rw [nmB_s] at h
    exact h
  go_enter Try.func12, Try.ntmps12
  go_wp2_with fail
  have e2 : (w.alloc (ndO (zN 3))).alloc (.cells #[.string ⟨#[115]⟩, .slice (some ⟨w.heap.size, 0, none⟩) 1 1] 57) = w2 := hw2.symm
  unfold zN ndO at e2
  rw [e2]
  clear e2 hw2
  refine (H1.out ()).mono ?_
  rintro e w3 ⟨rfl, b3⟩
  have HB3 := (show Hid (Below w.heap.size w w3) from HB2.out.trans (b3.mono HB2.out.size))
  clear b3 HB2 H1
  have HB4 := (show Hid (Below w.heap.size w (w3.alloc (.cells #[.int .i64 0, .int .i64 0] 27))) from HB3.out.alloc HB3.out.size _)
  clear HB3
  go_wp2_with fail
  refine (H2.out _).mono ?_
  rintro e w5 ⟨rfl, b5⟩
  have HB5 := (show Hid (Below w.heap.size w w5) from HB4.out.trans (b5.mono HB4.out.size))
  clear b5 HB4 H2
  have HB6 := (show Hid (Below w.heap.size w (w5.alloc (.cells #[.int .i64 0, .int .i64 0] 27))) from HB5.out.alloc HB5.out.size _)
  clear HB5
  go_wp2_with fail
  refine (H3.out _).mono ?_
  rintro e w7 ⟨rfl, b7⟩
  have HB7 := (show Hid (Below w.heap.size w w7) from HB6.out.trans (b7.mono HB6.out.size))
  clear b7 HB6 H3
  go_wp2_with fail
  go_ret
  exact ⟨rfl, HB7.out⟩
end Go.Proofs.Ytppggnmlbcdegaa.N

namespace Go.Proofs.Ytppggnmlbcdegaa.N
open Go.RowKit Go.Maps
open Go.Proofs.Ytppggnmlbcdegaa.T
/-- While a grammar is lent: its box, the lent one's, and what was lent. -/
structure LyS (w0 wr : World) (wb k : Nat) (u1 u2 : Value) (g cap : Nat) (ov : List Le) : Prop where
  l : LgB w0 wr g cap ov
  x1 : GX wr wb u1
  x2 : GX wr k u2
theorem LyS.later {w0 wr W' : World} {wb k : Nat} {u1 u2 : Value} {g cap : Nat} {ov : List Le} (h : LyS w0 wr wb k u1 u2 g cap ov) (hb : Below wr.heap.size wr W') : LyS w0 W' wb k u1 u2 g cap ov := ⟨h.l.later hb, h.x1.below hb, h.x2.below hb⟩
end Go.Proofs.Ytppggnmlbcdegaa.N

namespace Go.Proofs.Ytppggnmlbcdegaa.N
open Go.RowKit Go.Maps
open Go.Proofs.Ytppggnmlbcdegaa.T
set_option maxRecDepth 100000 in
set_option maxHeartbeats 8000000 in
/-- The program's Rename where it refuses. -/
theorem renameP_no (gs : GL) (A : Option Addr) (c : Nat) (r : Int) (s : ByteArray) (hs : s.size ≤ 140737488355328) (w : World) (hp : GI w A gs) (hn : ¬ rnE gs r s = 0) :
    Calls Try.prog 28 #[.agg #[.slice A gs.length c], .int .i64 r, .string s] w fun e w' => RnA w w' e gs r s ∧ Below w.heap.size w w' := by
  have HA := (show Hid (RnS w ((w.alloc (.cells #[.slice A gs.length c] 24)).alloc (.cells #[.slice none 0 0] 24)) (.slice A gs.length c)) from RnS.mk2 _ _)
  have HP := (show Hid (GI w A gs) from hp)
  have HNb := (show Hid (∀ W, Below w.heap.size w W → Calls Try.prog 51 #[.agg #[.slice A gs.length c], .int .i64 r] W fun e w' => (∃ mv, e = .returned (.tuple #[mv, .int .i64 (lkR gs r)]) ∧ (lkR gs r = 0 → ∃ B, W.heap.size ≤ B ∧ mv = .map (some B) ∧ NmM w' B gs)) ∧ Below W.heap.size W w') from fun W hW => numbW_any gs A c r W (HP.out.later hW))
  have HNm := (show Hid (∀ W, Calls Try.prog 13 #[.string s] W fun e w' => e = .returned (.bool (nmB s)) ∧ Below W.heap.size W w') from fun W => nameP_any s hs W)
  have q1 := HA.out.x.cl
  clear hp HP
  go_enter Try.func28, Try.ntmps28
  go_wp2_with fail
  generalize (w.alloc (.cells #[.slice A gs.length c] 24)).alloc (.cells #[.slice none 0 0] 24) = w1 at *
  go_wp2_with fail
  refine (HNb.out _ HA.out.b).mono ?_
  rintro e w2 ⟨⟨mv, rfl, hm⟩, b2⟩
  have HA2 := (show Hid (RnS w w2 (.slice A gs.length c)) from HA.out.later b2)
  clear HA q1 HNb b2
  by_cases hz : lkR gs r = 0
  · obtain ⟨B, hB, rfl, hM⟩ := hm hz
    have HM := (show Hid (NmM w2 B gs) from hM)
    have tz : (lkR gs r != 0) = false := by rw [hz]; rfl
    have HZ := (show Hid (lkR gs r = 0) from hz)
    clear hm hM hz hB
    have HZ2 := HZ
    rw [HZ.out] at tz ⊢
    clear HZ2
    go_wp2_with fail
    refine (HNm.out _).mono ?_
    rintro e w3 ⟨rfl, b3⟩
    have HA3 := (show Hid (RnS w w3 (.slice A gs.length c)) from HA2.out.later b3)
    have HM3 := (show Hid (NmM w3 B gs) from HM.out.same (b3.block B HM.out.lt))
    clear HA2 HM b3 HNm tz
    cases hb : nmB s with
    | false =>
      have HE := (show Hid _ from rnE_name HZ.out hb)
      have hyf := HA3.out.y.fz
      have hyc := HA3.out.y.cl
      clear HM3 HZ hn
      go_wp2_with fail
      refine ret_gx2 rfl rfl rfl rfl (HA3.out.y.set _) ?_
      exact ⟨RnA.none HE.out, HA3.out.b.setCell (p := ⟨w.heap.size + 1, 0, none⟩) (by show w.heap.size ≤ w.heap.size + 1; omega) _⟩
    | true =>
      obtain ⟨i, hf, hir⟩ : ∃ i : Nat, fdG gs s = some i ∧ (i : Int) ≠ r := by
        refine Classical.byContradiction fun q => hn ?_
        unfold rnE
        rw [if_neg (fun z => z HZ.out), if_neg (by rw [hb]; exact Bool.noConfusion), if_neg]
        rintro ⟨z1, z2⟩
        cases hf : fdG gs s with
        | none => rw [fdN_none hf] at z1; omega
        | some i => rw [fdN_some hf] at z2; exact q ⟨i, hf, z2⟩
      have HE := (show Hid _ from rnE_twice HZ.out hb (by rw [fdN_some hf]; omega) (by rw [fdN_some hf]; exact hir))
      obtain ⟨c0, hrun, hc0⟩ := HM3.out.look s hs
      obtain rfl := hc0 i hf
      rw [hf, Option.isSome_some] at hrun
      have ti : ((i : Int) != r) = true := by rw [bne, beq_eq_false_iff_ne.2 hir]; rfl
      have hyf := HA3.out.y.fz
      have hyc := HA3.out.y.cl
      clear HM3 HZ hn hf hc0 hir
      go_wp2_with fail
      refine ret_gx2 rfl rfl rfl rfl (HA3.out.y.set _) ?_
      exact ⟨RnA.none HE.out, HA3.out.b.setCell (p := ⟨w.heap.size + 1, 0, none⟩) (by show w.heap.size ≤ w.heap.size + 1; omega) _⟩
  · have tz : (lkR gs r != 0) = true := by rw [bne, beq_eq_false_iff_ne.2 hz]; rfl
    have HE := (show Hid _ from rnE_bad (s := s) hz)
    have hyf := HA2.out.y.fz
    have hyc := HA2.out.y.cl
    clear hm hz HNm
    generalize lkR gs r = cd at *
    go_wp2_with fail
    refine ret_gx2 rfl rfl rfl rfl (HA2.out.y.set _) ?_
    exact ⟨RnA.none HE.out, HA2.out.b.setCell (p := ⟨w.heap.size + 1, 0, none⟩) (by show w.heap.size ≤ w.heap.size + 1; omega) _⟩
end Go.Proofs.Ytppggnmlbcdegaa.N

namespace Go.Proofs.Ytppggnmlbcdegaa.N
open Go.RowKit Go.Maps
open Go.Proofs.Ytppggnmlbcdegaa.T
theorem renameP_any (gs : GL) (A : Option Addr) (c : Nat) (r : Int) (s : ByteArray) (hs : s.size ≤ 140737488355328) (w : World) (hp : GI w A gs) :
    Calls Try.prog 28 #[.agg #[.slice A gs.length c], .int .i64 r, .string s] w fun e w' => RnA w w' e gs r s ∧ Below w.heap.size w w' := by
  by_cases h : rnE gs r s = 0
  · obtain ⟨n, rfl⟩ : ∃ n : Nat, r = (n : Int) := ⟨r.toNat, by have := (lkR_zero (rnE_zero h).1).2.1; omega⟩
    exact renameP_yes gs A c n s hs w hp h
  · exact renameP_no gs A c r s hs w hp h
theorem renameD_any (gs : GL) (A : Option Addr) (c : Nat) (r : Int) (s : ByteArray) (hs : s.size ≤ 140737488355328) (w : World) (hp : GI w A gs) :
    Calls Try.prog 29 #[.agg #[.slice A gs.length c], .int .i64 r, .string s] w fun e w' => RnA w w' e gs r s ∧ Below w.heap.size w w' := by
  by_cases h : rnE gs r s = 0
  · obtain ⟨n, rfl⟩ : ∃ n : Nat, r = (n : Int) := ⟨r.toNat, by have := (lkR_zero (rnE_zero h).1).2.1; omega⟩
    exact renameD_yes gs A c n s hs w hp h
  · exact renameD_no gs A c r s hs w hp h
theorem rnG_sizes {gs : GL} {r : Int} {s : ByteArray} (h : GmL gs) : GmL (rnG gs r s) := by
  unfold rnG
  split
  · refine ⟨by rw [reG_len]; exact h.1, fun g hg => ?_⟩
    obtain ⟨k, hk⟩ := List.getElem?_of_mem hg
    rw [reG_get] at hk
    cases hq : gs[k]? with
    | none => rw [hq] at hk; cases hk
    | some x =>
      rw [hq] at hk
      cases hk
      show (List.map _ _).length ≤ _
      rw [List.length_map]
      exact h.2 x (List.mem_of_getElem? hq)
  · exact ⟨Nat.zero_le _, (fun g hg => by cases hg)⟩
theorem hid_of {p : Prop} (h : p) : Hid p := h
/-- The boxes of the law: the grammar, the lent one, both answers. -/
structure NmS (w0 wr : World) (wb k k1 k2 : Nat) (u1 u2 u3 u4 : Value) (g cap : Nat) (ov : List Le) (gs hs : GL) : Prop where
  s : LyS w0 wr wb k u1 u2 g cap ov
  x3 : GX wr k1 u3
  x4 : GX wr k2 u4
  r1 : GrR wr u1 gs
  r2 : GrR wr u2 gs
  r3 : GrR wr u3 hs
  r4 : GrR wr u4 hs
theorem NmS.later {w0 wr W' : World} {wb k k1 k2 : Nat} {u1 u2 u3 u4 : Value} {g cap : Nat} {ov : List Le} {gs hs : GL} (h : NmS w0 wr wb k k1 k2 u1 u2 u3 u4 g cap ov gs hs) (hb : Below wr.heap.size wr W') : NmS w0 W' wb k k1 k2 u1 u2 u3 u4 g cap ov gs hs :=
  ⟨h.s.later hb, h.x3.below hb, h.x4.below hb, h.r1.later hb, h.r2.later hb, h.r3.later hb, h.r4.later hb⟩
set_option maxRecDepth 100000 in
set_option maxHeartbeats 16000000 in
theorem names_law (gs : GL) (A : Option Addr) (c : Nat) (r : Int) (s : ByteArray) (hs : s.size ≤ 140737488355328) (w : World) (hg : GrIn w A c gs) : Calls Try.prog 6 #[.agg #[.slice A gs.length c], .int .i64 r, .string s] w fun e w' => e = .returned (.bool true) ∧ Below w.heap.size w w' := by
  have hl := hg.len
  obtain ⟨w0, hw0⟩ : ∃ w0, w0 = w.alloc (.cells #[.slice A gs.length c] 24) := ⟨_, rfl⟩
  have hb0 : Below w.heap.size w w0 := by rw [hw0]; exact below_box w _
  have HX0 := (show Hid (GX w0 w.heap.size (.slice A gs.length c)) from by rw [hw0]; exact GX.mk (heap_alloc_new w _))
  have HE0 := (show Hid (w.alloc (.cells #[.slice A gs.length c] 24) = w0) from hw0.symm)
  have hg0 : GrIn w0 A c gs := hg.later hb0
  have HLe : Hid (∀ _ : Unit, Calls Try.prog 9 #[.agg #[.slice A gs.length c]] w0 fun e w' => ∃ g cap ov, e = .returned (.agg #[.slice (some ⟨g, 0, none⟩) gs.length cap]) ∧ ov.map (·.1) = gs ∧ LgB w0 w' g cap ov) := fun _ => lendG_any gs A c w0 hg0
  have HK : Hid (∀ (w' : World) (g cap : Nat) (ov : List Le), ov.map (·.1) = gs → LgB w0 w' g cap ov → GrD w' A gs → Calls Try.prog 15 #[.agg #[.slice (some ⟨g, 0, none⟩) gs.length cap], .agg #[.slice A gs.length c]] w' fun e w'' => e = .returned (.bool true) ∧ Below w'.heap.size w' w'') := fun w' g cap ov h0 h1 h2 => keptG_any h0 (fun r hr => by
    obtain ⟨k, hk⟩ := List.getElem?_of_mem hr
    obtain ⟨_, _, h6, _⟩ := hg.each k r hk
    exact h6.2.2.2.1) hl h1 h2
  have HWk := (show Hid (∀ W, Calls Try.prog 12 #[] W fun e w' => e = .returned (.bool true) ∧ Below W.heap.size W w') from lives_any)
  have HP := (show Hid (GI w0 A gs) from hg0.gi)
  have HB0 := (show Hid (Below w.heap.size w w0) from hb0)
  have x0 := HX0.out.cl
  have HGm := (show Hid (GmL gs) from ⟨by omega, fun g hgm => (hg0.gi.t g hgm).2.1⟩)
  have HGn := (show Hid (GmL (rnG gs r s)) from rnG_sizes HGm.out)
  have HA1 : Hid (∀ (w' : World) (Ap : Option Addr) (cp : Nat), GI w' Ap gs → Calls Try.prog 28 #[.agg #[.slice Ap gs.length cp], .int .i64 r, .string s] w' fun e w'' => (∃ Av nv cv ov, e = .returned (.tuple #[.agg #[.slice Av nv cv], .int .i64 (rnE gs r s)]) ∧ ov.map (·.1) = rnG gs r s ∧ OG w'' w'.heap.size (.slice Av nv cv) ov) ∧ Below w'.heap.size w' w'') := fun w' Ap cp h => by
    refine (renameP_any gs Ap cp r s hs w' h).mono ?_
    rintro e w'' ⟨⟨v, ov, rfl, h1, h2⟩, hb⟩
    obtain ⟨Av, cv, rfl⟩ := own_sl h2.o
    exact ⟨⟨Av, _, cv, ov, rfl, h1, h2⟩, hb⟩
  have HD1 : Hid (∀ (w' : World) (Ap : Option Addr) (cp : Nat), GI w' Ap gs → Calls Try.prog 29 #[.agg #[.slice Ap gs.length cp], .int .i64 r, .string s] w' fun e w'' => (∃ Av nv cv ov, e = .returned (.tuple #[.agg #[.slice Av nv cv], .int .i64 (rnE gs r s)]) ∧ ov.map (·.1) = rnG gs r s ∧ OG w'' w'.heap.size (.slice Av nv cv) ov) ∧ Below w'.heap.size w' w'') := fun w' Ap cp h => by
    refine (renameD_any gs Ap cp r s hs w' h).mono ?_
    rintro e w'' ⟨⟨v, ov, rfl, h1, h2⟩, hb⟩
    obtain ⟨Av, cv, rfl⟩ := own_sl h2.o
    exact ⟨⟨Av, _, cv, ov, rfl, h1, h2⟩, hb⟩
  generalize rnE gs r s = re at *
  generalize rnG gs r s = rg at *
  clear hg hl hg0 hw0 hb0
  go_enter Try.func6, Try.ntmps6
  go_wp2_with (rw [HE0.out])
  refine (HLe.out ()).mono ?_
  rintro e w1 ⟨g, cap, ov, rfl, hm, ho⟩
  have HM := (show Hid (ov.map (·.1) = gs) from hm)
  obtain ⟨w2, hw2⟩ : ∃ w2, w2 = w1.alloc (.cells #[.slice (some ⟨g, 0, none⟩) gs.length cap] 24) := ⟨_, rfl⟩
  have HE2 := (show Hid (w1.alloc (.cells #[.slice (some ⟨g, 0, none⟩) gs.length cap] 24) = w2) from hw2.symm)
  have HS2 := (show Hid (LyS w0 w2 w.heap.size w1.heap.size (.slice A gs.length c) (.slice (some ⟨g, 0, none⟩) gs.length cap) g cap ov) from by
    have hb : Below w1.heap.size w1 w2 := by rw [hw2]; exact below_box w1 _
    have hX1 : GX w1 w.heap.size (.slice A gs.length c) := HX0.out.same (ho.b.block _ HX0.out.lt)
    exact ⟨ho.later hb, hX1.below hb, by rw [hw2]; exact GX.mk (heap_alloc_new w1 _)⟩)
  have y1 := HS2.out.x1.cl
  have y2 := HS2.out.x2.cl
  have HIn := (show Hid (∀ W, LyS w0 W w.heap.size w1.heap.size (.slice A gs.length c) (.slice (some ⟨g, 0, none⟩) gs.length cap) g cap ov → GI W (some ⟨g, 0, none⟩) gs ∧ GI W A gs) from fun W h => ⟨⟨h.l.gr HM.out, HP.out.l, HP.out.t⟩, HP.out.later h.l.b⟩)
  clear ho hm HLe hw2 x0 HX0
  go_wp2_with (rw [HE2.out])
  generalize w1.heap.size = k1 at *
  refine (HA1.out w2 _ _ (HIn.out _ HS2.out).1).mono ?_
  rintro e w3 ⟨⟨A3, n3, c3, ov3, rfl, hm3, ho3⟩, b3⟩
  obtain ⟨w4, hw4⟩ : ∃ w4, w4 = w3.alloc (.cells #[.slice A3 n3 c3] 24) := ⟨_, rfl⟩
  have HE4 := (show Hid (w3.alloc (.cells #[.slice A3 n3 c3] 24) = w4) from hw4.symm)
  have b4 : Below w3.heap.size w3 w4 := by rw [hw4]; exact below_box w3 _
  have HS4 := (show Hid (LyS w0 w4 w.heap.size k1 (.slice A gs.length c) (.slice (some ⟨g, 0, none⟩) gs.length cap) g cap ov) from (HS2.out.later b3).later b4)
  have HX3 := (show Hid (GX w4 w3.heap.size (.slice A3 n3 c3)) from by rw [hw4]; exact GX.mk (heap_alloc_new w3 _))
  have HR3 := (show Hid (GrR w4 (.slice A3 n3 c3) rg) from (ho3.rd hm3).later b4)
  clear b3 b4 hw4 HS2 y1 y2 HA1 HE2 hm3 ho3
  have y1 := HS4.out.x1.cl
  have y2 := HS4.out.x2.cl
  go_wp2_with (rw [HE4.out])
  generalize w3.heap.size = k3 at *
  refine (HD1.out w4 _ _ (HIn.out _ HS4.out).2).mono ?_
  rintro e w5 ⟨⟨A5, n5, c5, ov5, rfl, hm5, ho5⟩, b5⟩
  obtain ⟨w6, hw6⟩ : ∃ w6, w6 = w5.alloc (.cells #[.slice A5 n5 c5] 24) := ⟨_, rfl⟩
  have HE6 := (show Hid (w5.alloc (.cells #[.slice A5 n5 c5] 24) = w6) from hw6.symm)
  have b6 : Below w5.heap.size w5 w6 := by rw [hw6]; exact below_box w5 _
  have HN := (show Hid (NmS w0 w6 w.heap.size k1 k3 w5.heap.size (.slice A gs.length c) (.slice (some ⟨g, 0, none⟩) gs.length cap) (.slice A3 n3 c3) (.slice A5 n5 c5) g cap ov gs rg) from by
    have h1 := (HS4.out.later b5).later b6
    obtain ⟨i1, i2⟩ := HIn.out _ h1
    exact ⟨h1, (HX3.out.below b5).below b6, by rw [hw6]; exact GX.mk (heap_alloc_new w5 _), ⟨_, _, rfl, i2.d⟩, ⟨_, _, rfl, i1.d⟩, (HR3.out.later b5).later b6, (ho5.rd hm5).later b6⟩)
  clear b5 b6 hw6 HS4 y1 y2 HD1 HE4 hm5 ho5 HX3 HR3 HIn
  go_wp2_with (rw [HE6.out])
  generalize w5.heap.size = k5 at *
  have hD : Below w6.heap.size w6 w6.drew := (Below.refl _ _).drew
  have nz := HN.out.later hD
  obtain ⟨u1, hu1⟩ : ∃ u1, u1 = Value.slice A gs.length c := ⟨_, rfl⟩
  have HCs := (show Hid (∀ W, NmS w0 W w.heap.size k1 k3 k5 (.slice A gs.length c) (.slice (some ⟨g, 0, none⟩) gs.length cap) (.slice A3 n3 c3) (.slice A5 n5 c5) g cap ov gs rg → W.cell? ⟨w.heap.size, 0, none⟩ = some (.slice A gs.length c) ∧ W.cell? ⟨k1, 0, none⟩ = some (.slice (some ⟨g, 0, none⟩) gs.length cap) ∧ W.cell? ⟨k3, 0, none⟩ = some (.slice A3 n3 c3) ∧ W.cell? ⟨k5, 0, none⟩ = some (.slice A5 n5 c5)) from fun W h => ⟨h.s.x1.cl, h.s.x2.cl, h.x3.cl, h.x4.cl⟩)
  have C12 := (show Hid (∀ W, NmS w0 W w.heap.size k1 k3 k5 (.slice A gs.length c) (.slice (some ⟨g, 0, none⟩) gs.length cap) (.slice A3 n3 c3) (.slice A5 n5 c5) g cap ov gs rg → Calls Try.prog 12 #[] W fun e w' => e = .returned (.bool true) ∧ NmS w0 w' w.heap.size k1 k3 k5 (.slice A gs.length c) (.slice (some ⟨g, 0, none⟩) gs.length cap) (.slice A3 n3 c3) (.slice A5 n5 c5) g cap ov gs rg) from fun W h => (HWk.out W).mono fun e w' q => ⟨q.1, h.later q.2⟩)
  have C30a := (show Hid (∀ W, NmS w0 W w.heap.size k1 k3 k5 (.slice A gs.length c) (.slice (some ⟨g, 0, none⟩) gs.length cap) (.slice A3 n3 c3) (.slice A5 n5 c5) g cap ov gs rg → Calls Try.prog 30 #[.agg #[.slice A3 n3 c3], .agg #[.slice A5 n5 c5]] W fun e w' => e = .returned (.bool true) ∧ NmS w0 w' w.heap.size k1 k3 k5 (.slice A gs.length c) (.slice (some ⟨g, 0, none⟩) gs.length cap) (.slice A3 n3 c3) (.slice A5 n5 c5) g cap ov gs rg) from fun W h => (sameH_any HGn.out HGn.out h.r3 h.r4).mono fun e w' q => ⟨by rw [q.1, gmB_t rfl], h.later q.2⟩)
  have C31a := (show Hid (∀ W, NmS w0 W w.heap.size k1 k3 k5 (.slice A gs.length c) (.slice (some ⟨g, 0, none⟩) gs.length cap) (.slice A3 n3 c3) (.slice A5 n5 c5) g cap ov gs rg → Calls Try.prog 31 #[.agg #[.slice A3 n3 c3], .agg #[.slice A5 n5 c5]] W fun e w' => e = .returned (.bool true) ∧ NmS w0 w' w.heap.size k1 k3 k5 (.slice A gs.length c) (.slice (some ⟨g, 0, none⟩) gs.length cap) (.slice A3 n3 c3) (.slice A5 n5 c5) g cap ov gs rg) from fun W h => (sameP_any HGn.out HGn.out h.r3 h.r4).mono fun e w' q => ⟨by rw [q.1, gmB_t rfl], h.later q.2⟩)
  have C31b := (show Hid (∀ W, NmS w0 W w.heap.size k1 k3 k5 (.slice A gs.length c) (.slice (some ⟨g, 0, none⟩) gs.length cap) (.slice A3 n3 c3) (.slice A5 n5 c5) g cap ov gs rg → Calls Try.prog 31 #[.agg #[.slice (some ⟨g, 0, none⟩) gs.length cap], .agg #[.slice A3 n3 c3]] W fun e w' => e = .returned (.bool (gmB gs rg)) ∧ NmS w0 w' w.heap.size k1 k3 k5 (.slice A gs.length c) (.slice (some ⟨g, 0, none⟩) gs.length cap) (.slice A3 n3 c3) (.slice A5 n5 c5) g cap ov gs rg) from fun W h => (sameP_any HGm.out HGn.out h.r2 h.r3).mono fun e w' q => ⟨q.1, h.later q.2⟩)
  have C30b := (show Hid (∀ W, NmS w0 W w.heap.size k1 k3 k5 (.slice A gs.length c) (.slice (some ⟨g, 0, none⟩) gs.length cap) (.slice A3 n3 c3) (.slice A5 n5 c5) g cap ov gs rg → Calls Try.prog 30 #[.agg #[.slice A gs.length c], .agg #[.slice A3 n3 c3]] W fun e w' => e = .returned (.bool (gmB gs rg)) ∧ NmS w0 w' w.heap.size k1 k3 k5 (.slice A gs.length c) (.slice (some ⟨g, 0, none⟩) gs.length cap) (.slice A3 n3 c3) (.slice A5 n5 c5) g cap ov gs rg) from fun W h => (sameH_any HGm.out HGn.out h.r1 h.r3).mono fun e w' q => ⟨q.1, h.later q.2⟩)
  have C15 := (show Hid (∀ W, NmS w0 W w.heap.size k1 k3 k5 (.slice A gs.length c) (.slice (some ⟨g, 0, none⟩) gs.length cap) (.slice A3 n3 c3) (.slice A5 n5 c5) g cap ov gs rg → Calls Try.prog 15 #[.agg #[.slice (some ⟨g, 0, none⟩) gs.length cap], .agg #[.slice A gs.length c]] W fun e w' => e = .returned (.bool true) ∧ NmS w0 w' w.heap.size k1 k3 k5 (.slice A gs.length c) (.slice (some ⟨g, 0, none⟩) gs.length cap) (.slice A3 n3 c3) (.slice A5 n5 c5) g cap ov gs rg) from fun W h => (HK.out W g cap ov HM.out h.s.l (HP.out.d.later h.s.l.b)).mono fun e w' q => ⟨q.1, h.later q.2⟩)
  have HNz := (show Hid _ from nz)
  have HFin := (show Hid (∀ W, NmS w0 W w.heap.size k1 k3 k5 (.slice A gs.length c) (.slice (some ⟨g, 0, none⟩) gs.length cap) (.slice A3 n3 c3) (.slice A5 n5 c5) g cap ov gs rg → Below w.heap.size w W) from fun W h => HB0.out.trans (h.s.l.b.mono HB0.out.size))
  obtain ⟨q1, q2, q3, q4⟩ := HCs.out _ nz
  clear hD nz hu1 u1 HN HK HWk HP HGm HGn HM HB0 HE6
  generalize gmB gs rg = bq at *
  cases bq
  all_goals
    go_region_held3 (fun W => W.cell? ⟨w.heap.size, 0, none⟩ = some (.slice A gs.length c) ∧ W.cell? ⟨k1, 0, none⟩ = some (.slice (some ⟨g, 0, none⟩) gs.length cap) ∧ W.cell? ⟨k3, 0, none⟩ = some (.slice A3 n3 c3) ∧ W.cell? ⟨k5, 0, none⟩ = some (.slice A5 n5 c5)) (first | go_keep | exact HCs.out _ hf.out | exact HCs.out _ he.out | exact HCs.out _ hd.out | exact HCs.out _ hc.out | exact HCs.out _ hb.out | exact HCs.out _ ha.out) (first
      | (go_at_call 12; with_reducible refine (C12.out _ HNz.out).mono ?_; rintro e wa ⟨rfl, na⟩; have ha := hid_of na; clear na)
      | (go_at_call 30; with_reducible refine (C30a.out _ ha.out).mono ?_; rintro e wb ⟨rfl, nb⟩; have hb := hid_of nb; clear nb)
      | (go_at_call 31; with_reducible refine (C31a.out _ hb.out).mono ?_; rintro e wc ⟨rfl, nc⟩; have hc := hid_of nc; clear nc)
      | (go_at_call 31; with_reducible refine (C31b.out _ hc.out).mono ?_; rintro e wd ⟨rfl, nd⟩; have hd := hid_of nd; clear nd)
      | (go_at_call 30; with_reducible refine (C30b.out _ hd.out).mono ?_; rintro e we ⟨rfl, ne⟩; have he := hid_of ne; clear ne)
      | (go_at_call 15; with_reducible refine (C15.out _ he.out).mono ?_; rintro e wf ⟨rfl, nf⟩; have hf := hid_of nf; clear nf))
    rename_i hHeld
    have HBz := (show Hid (Below w.heap.size w wf) from HFin.out _ hf.out)
    clear hHeld hf he hd hc hb ha HFin C12 C30a C31a C31b C30b C15 HCs HNz q1 q2 q3 q4
    go_wp2_with fail
    go_ret
    exact ⟨rfl, HBz.out⟩
end Go.Proofs.Ytppggnmlbcdegaa.N

namespace Go.Proofs.Ytppggnmlbcdegaa
open Go.ChangeShapes Go.WideShapes Go.ChangeAt Go.RowKit
open Go.ChangeMaps (open_string shut_string)
set_option maxRecDepth 100000 in
theorem rulesNames_lifted (os : Os) (started : os.Started) (H : Type) (enc : TypeId × Value → H) :
    ReturnsInHanded {} Try.checked os 6 .any (Rows.rulesNamesSpec.pre6 enc Try.prog Try.f6 Rows.rulesNamesRow.domain false) (Rows.rulesNamesSpec.post enc Try.prog Try.f6 false true false false) := by
  refine returnsInHanded_of_change_sized (C := Try.checked) T.own started (by kernel_rfl) Try.func6
    (ChangeSpec.witness6 (enc := enc) (C := Try.checked) false ⟨#[], #[.agg #[.slice none 0 0], .int .i64 0, .string ByteArray.empty], []⟩ 8 (by kernel_rfl) (by kernel_rfl) (by kernel_rfl) (by kernel_rfl)) ?_
  intro W base args ds gs before hval0 hW hcnd hsz _
  have hval : ∀ (j : Nat) t v, Try.f6.params[j]? = some t → args[j]? = some v → Value.okWide Try.prog W .any base t v := hval0
  have hW' := hW
  obtain ⟨p, q, hA0, hV, rfl, hfz, hnd⟩ := hW
  have hA : DataW.TrodAll enc Try.prog W 0 (fun _ => true) true Try.f6.params.toList args.toList ds p := hA0
  rw [Try.params6] at hA hval
  have hsz : (DataW.weightsEach Try.prog (#[24, 3, 9].toList ++ Rows.rulesNamesSpec.plain.varTypes Try.prog) (ds ++ gs)).all (· ≤ reachBytes) = true := hsz
  obtain ⟨v0, v1, v2, d0, d1, d2, p0, p1, p2, rfl, rfl, rfl, h0, h1, h2⟩ := trodAll_three hA
  obtain ⟨rfl, rfl⟩ := trodVars_none hV
  have lt0 : ∀ x ∈ p0, x.block < W.heap.size := by obtain ⟨m, hm⟩ := h0; exact DataW.trod_lt m _ _ _ hm
  obtain ⟨A0, c0, L0, rfl, r0⟩ := N.open_gram h0 (hval 0 24 v0 rfl rfl) (T.sized_at hsz (j := 0) rfl rfl)
  obtain ⟨n1, rfl, rfl, rfl, wm1⟩ := open_int Try.underlying3 (hval 1 3 v1 rfl rfl) h1
  have sz2 := T.sized_at hsz (j := 2) rfl rfl
  obtain ⟨s2, rfl, rfl, rfl, hs2⟩ := open_string Try.underlying9 (hval 2 9 v2 rfl rfl) h2
  have hb2 : s2.size ≤ 140737488355328 := by
    have hr : reachBytes = 140737488351232 := by decide
    have h := sz2 s2.size (by simp only [DataW.weights, List.mem_singleton]; rw [Array.length_toList]; rfl)
    rw [hr] at h
    omega
  clear hA0 hval0
  refine (N.names_law L0 A0 c0 n1 s2 hb2 W r0).mono fun e W' ⟨he, bel⟩ => ?_
  subst he
  exact ⟨_, rfl, _, _, _, [], _, [], hW', trodAll_mk1 (shut_bool Try.underlying4 _), (trodAll_cons_mk (Below.trod T.laidOut (by kernel_rfl) (of_decide_eq_true (by kernel_rfl)) h0 bel lt0) (trodAll_cons_mk (shut_int Try.underlying3 wm1) (trodAll_cons_mk (shut_string Try.underlying9 hs2) trodAll_mk0))), rfl, bel.frame _, fun h => by cases h⟩

theorem rulesNames_holds : Rows.RulesNamesSaid :=
  OpenClaim.holds_of_wide 6 Try.f6 rfl rfl rfl rfl rfl rfl rfl ⟨rfl, rfl, rfl, rfl, rfl⟩ rfl rfl rfl rfl rfl (by kernel_rfl) Try.func6 (by kernel_rfl)
    (of_decide_eq_true (by kernel_rfl)) (by unfold Func.isWrapper; first | (rw [if_pos (by decide +kernel)]; kernel_rfl) | (rw [if_neg (by decide +kernel)]; exact ⟨rfl, rfl⟩))
    (fun os started H enc _ => rulesNames_lifted os started H enc)
end Go.Proofs.Ytppggnmlbcdegaa
