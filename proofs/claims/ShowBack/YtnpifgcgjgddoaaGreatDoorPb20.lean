/- DERIVED. Plain mathematics and walks, laid together (20). -/
import Derived.Test.YtnpifgcgjgddoaaGreatDoorPb19
set_option maxRecDepth 100000
set_option maxHeartbeats 8000000
namespace Go.Proofs.YtnpifgcgjgddoaaGreatDoor.N
open Go.RowKit
def AlV (E : PE) (z : Nat) (w0 : World) (r : Sum (List Rl) (Nat × Int)) (e : Ending) (W' : World) : Prop := match r with
 | .inr q => e = pnc (plA E z q.1) q.2 /\ Below w0.heap.size w0 W'
 | .inl rs => ∃ A c ns, rs = [(0, ⟨#[]⟩, ns)] /\ e = .returned (.agg #[.int .i64 (plA E z 0), .string ⟨#[]⟩, .slice A ns.length c]) /\ W'.ownsRow w0.heap.size 51 7 (.slice A ns.length c) ns.length (T.ndc ns) /\ Below w0.heap.size w0 W'
theorem zdg {E : PE} (hE : OkE E) (hk0 : ∀ a, a < E.l.length -> ¬ kdA E a = 0) {z : Nat} {w0 : World} (hv : R.VB w0) {b : Nat} {tv : Value} {W : World} {v : Value} {L : List Nd} (h : RS E z w0 W b tv 0 0 v L) : Calls Tryz.prog 41 #[.pointer (some ⟨b, 0, none⟩)] W fun e W' => AlV E z w0 (alN E) e W' := by
 unfold alN
 cases hx : exN E 0 with
 | inr q => exact zq4 hE hv h q hx
 | inl p =>
  obtain ⟨a, ns⟩ := p
  have hal := (ze5 (Nat.zero_le _) hx).2
  dsimp only
  by_cases hlt : a < E.l.length
  ·rw [if_pos hlt]
   exact zq5 hE hv h a ns hx (hk0 a hlt)
  ·rw [if_neg hlt]
   refine (znN hE hv h a ns hx (by rw [show a = E.l.length from by omega]; exact zhX E)).mono ?_
   rintro e W' ⟨v', rfl, h2, _⟩
   obtain ⟨A, c, rfl⟩ := zb4 h2.o
   exact ⟨A, c, ns, rfl, rfl, h2.o, h2.bl⟩
theorem zl3 {E : PE} {z : Nat} {w0 W : World} (hw : w0.heap.size <= W.heap.size) (ns : List Nd) (v : Value) : (W.alloc (.cells #[.int .i64 (plA E z 0), .string ⟨#[]⟩, v] 79)).ownsRow w0.heap.size 79 3 (.slice (some ⟨W.heap.size, 0, none⟩) 1 1) 1 (plc E z [((0, ⟨#[]⟩, ns), v)]) := by
 rw [zlX]
 exact ⟨rfl, .inr ⟨W.heap.size, 1, _, rfl, hw, heap_alloc_new W _, Nat.le_refl _, by unfold maxLen; omega, rfl, rfl⟩⟩
theorem al_tx {E : PE} (hE : OkE E) {rs : List Rl} (h : alN E = .inl rs) : ∀ r ∈ rs, (∀ n ∈ r.2.2, n.tx.size <= 65536) /\ r.2.2.length <= 2000000000000 := by
 unfold alN at h
 cases hx : exN E 0 with
 | inr q => rw [hx] at h; cases h
 | inl p =>
  rw [hx] at h
  dsimp only at h
  split at h
  ·cases h
  ·cases h
   intro r hr
   rw [List.mem_singleton.1 hr]
   exact ⟨zq9 hE hx, ex_len hE (Nat.zero_le _) hx⟩
theorem zhR (s : ByteArray) (w : World) (hg : GW w) (l : List Tk) (hl : zcl (zaz s) s = .inl l) (hr : ruB (mkE l) 0 = false) : Calls Tryz.prog 21 #[.string s] w fun e w' => PsV w w' (fin (mkE l) s.size (alN (mkE l))) e /\ Below w.heap.size w w' := by
 have hE := zlj hl
 have hz := hE.z
 have hk0 := zl2 hl
 have hmf : ∀ (fn : Fn) (first cap : Array Value) (w : World), (Instr.makeFunc fn first cap).run Tryz.prog w = .ok (.func fn first cap) w := fun _ _ _ _ => rfl
 have HB0 : Hid (Below w.heap.size w ((w.alloc (.cells #[.slice none 0 0] 33)).alloc fxZ) /\ GX ((w.alloc (.cells #[.slice none 0 0] 33)).alloc fxZ) w.heap.size (.slice none 0 0) /\ FX ((w.alloc (.cells #[.slice none 0 0] 33)).alloc fxZ) (w.heap.size + 1) 0 0) := ⟨((Below.refl _ _).alloc (Nat.le_refl _) _).alloc (by rw [World.size_alloc]; omega) _, (GX.mk (heap_alloc_new w _)).below (zaa _ _), ⟨by have h := heap_alloc_new (w.alloc (.cells #[.slice none 0 0] 33)) fxZ; rw [World.size_alloc] at h; exact h⟩⟩
 have hgw := hg.later HB0.out.1
 have HN : Hid (∀ _ : Unit, Calls Tryz.prog 40 #[.string s] ((w.alloc (.cells #[.slice none 0 0] 33)).alloc fxZ) fun e w' => ∃ b tv, e = .returned (.pointer (some ⟨b, 0, none⟩)) /\ RS (mkE l) s.size ((w.alloc (.cells #[.slice none 0 0] 33)).alloc fxZ) w' b tv 0 0 (.slice none 0 0) []) := fun _ => zcK s _ hgw l hl
 have HVB : Hid (R.VB ((w.alloc (.cells #[.slice none 0 0] 33)).alloc fxZ)) := hgw.v
 have HTx : Hid (∀ rs, alN (mkE l) = .inl rs -> ∀ r ∈ rs, (∀ n ∈ r.2.2, n.tx.size <= 65536) /\ r.2.2.length <= 2000000000000) := fun rs h => al_tx hE h
 have HE : Hid (OkE (mkE l) /\ (∀ a, a < (mkE l).l.length -> ¬ kdA (mkE l) a = 0) /\ ruB (mkE l) 0 = false) := ⟨hE, hk0, hr⟩
 clear hg hgw hl hE hk0 hr
 generalize mkE l = E at *
 go_enter_defers Tryz.func21, Tryz.ntmps21
 go_wp2_with fail
 generalize (w.alloc (.cells #[.slice none 0 0] 33)).alloc fxZ = w0 at *
 refine (HN.out ()).mono ?_
 rintro e w1 ⟨b, tv, rfl, h1⟩
 have H1 := hO h1
 have HBg : Hid (∀ _ : Unit, Calls Tryz.prog 43 #[.pointer (some ⟨b, 0, none⟩)] w1 fun e W' => e = .returned (.bool false) /\ Below w1.heap.size w1 W') := fun _ => by
  have := zb9 h1 hz
  rw [HE.out.2.2] at this
  exact this
 clear h1 HN
 go_wp2_with fail
 refine (HBg.out ()).mono ?_
 rintro e w2 ⟨rfl, hb⟩
 have H2 := hO (H1.out.later hb)
 have HRu : Hid (∀ _ : Unit, Calls Tryz.prog 41 #[.pointer (some ⟨b, 0, none⟩)] w2 fun e W' => AlV E s.size w0 (alN E) e W') := fun _ => zdg HE.out.1 HE.out.2.1 HVB.out H2.out
 have hsz := HB0.out.1.size
 clear hb HBg H1
 cases hrd : alN E with
 | inr q =>
  rw [hrd] at HRu
  go_wp2_with fail
  refine (HRu.out ()).mono ?_
  rintro e w3 ⟨rfl, hb⟩
  exact zlZ rfl rfl rfl (HB0.out.2.1.below hb) (HB0.out.2.2.below hb) fun W' hW' => ⟨by rw [hrd]; rfl, (HB0.out.1.trans (hb.mono hsz)).trans hW'⟩
 | inl rs =>
  have hx1 := HTx.out rs hrd
  rw [hrd] at HRu
  go_wp2_with fail
  refine (HRu.out ()).mono ?_
  rintro e w3 ⟨A, c, ns, hrs, rfl, ho, hb3⟩
  have hs3 := hb3.size
  have HGr : Hid (∀ _ : Unit, Calls Tryz.prog 39 #[.slice (some ⟨w3.heap.size, 0, none⟩) 1 1] (w3.alloc (.cells #[.int .i64 (plA E s.size 0), .string ⟨#[]⟩, .slice A ns.length c] 79)) fun e W' => GrV w0 (w3.alloc (.cells #[.int .i64 (plA E s.size 0), .string ⟨#[]⟩, .slice A ns.length c] 79)) [((0, ⟨#[]⟩, ns), .slice A ns.length c)] (szR E s.size rs) e W') := fun _ => by
   rw [hrs]
   refine zcx (ov := [((0, ⟨#[]⟩, ns), .slice A ns.length c)]) (zl3 hs3 ns _) ⟨fun x hx => by rw [List.mem_singleton.1 hx]; exact ho.alloc _, List.pairwise_singleton _ _⟩ ?_ ?_ (by simp)
   ·intro x hx; rw [List.mem_singleton.1 hx]; exact (hx1 (0, ⟨#[]⟩, ns) (by rw [hrs]; exact List.mem_singleton.2 rfl)).1
   ·intro x hx; rw [List.mem_singleton.1 hx]; exact (hx1 (0, ⟨#[]⟩, ns) (by rw [hrs]; exact List.mem_singleton.2 rfl)).2
  have HB3 : Hid (Below w0.heap.size w0 (w3.alloc (.cells #[.int .i64 (plA E s.size 0), .string ⟨#[]⟩, .slice A ns.length c] 79)) /\ Bds w0 (w3.alloc (.cells #[.int .i64 (plA E s.size 0), .string ⟨#[]⟩, .slice A ns.length c] 79)) [((0, ⟨#[]⟩, ns), .slice A ns.length c)] /\ rs = [(0, ⟨#[]⟩, ns)]) := ⟨hb3.alloc hs3 _, ⟨fun x hx => by rw [List.mem_singleton.1 hx]; exact ho.alloc _, List.pairwise_singleton _ _⟩, hrs⟩
  clear ho hrs hb3 HRu HTx H2 hx1
  generalize plA E s.size 0 = p0 at *
  cases hsr : szR E s.size rs with
  | some p =>
   rw [hsr] at HGr
   go_wp2_with fail
   refine (HGr.out ()).mono ?_
   rintro e w4 ⟨rfl, hb⟩
   have hb4 := HB3.out.1.trans (hb.mono HB3.out.1.size)
   exact zlZ rfl rfl rfl (HB0.out.2.1.below hb4) (HB0.out.2.2.below hb4) fun W' hW' => ⟨by rw [hrd]; unfold fin; simp only [hsr]; rfl, (HB0.out.1.trans (hb4.mono hsz)).trans hW'⟩
  | none =>
   rw [hsr] at HGr
   go_wp2_with fail
   refine (HGr.out ()).mono ?_
   rintro e w4 ⟨gu, rfl, ho, hb⟩
   have hb4 := HB3.out.1.trans (hb.mono HB3.out.1.size)
   have hg4 := HB0.out.2.1.below hb4
   have hf4 := HB0.out.2.2.below hb4
   have HF := hO (zl1 (w := w) (w0 := w0) hg4 hf4 (zaV ho HB3.out.1.size) (HB3.out.2.1.later hb) hsz (HB0.out.1.trans (hb4.mono hsz)) (Nat.le_refl _))
   obtain ⟨A4, n4, rfl⟩ := zb4 ho
   have c0 := hg4.cl
   have f0 := hg4.fz
   have d0 := hf4.c0
   have d1 := hf4.c1
   have e0 := hf4.f0
   have e1 := hf4.f1
   clear ho hb hb4 hg4 hf4 HGr
   go_wp2_with fail
   exact doorR rfl rfl rfl HF.out.1 HF.out.2.1 ⟨by rw [hrd]; unfold fin; simp only [hsr]; exact ⟨_, [((0, ⟨#[]⟩, ns), .slice A ns.length c)], rfl, HF.out.2.2.1, HF.out.2.2.2.1, by rw [HB3.out.2.2]; rfl⟩, HF.out.2.2.2.2⟩
theorem zl4 (s : ByteArray) (w : World) (hg : GW w) : Calls Tryz.prog 21 #[.string s] w fun e w' => PsV w w' (psR s) e /\ Below w.heap.size w w' := by
 unfold psR
 cases hl : zcl (zaz s) s with
 | inr q => exact zl0 s w hg q hl
 | inl l =>
  dsimp only
  cases hr : ruB (mkE l) 0 with
  | true => exact zhQ s w hg l hl hr
  | false => rw [zof (by rw [hr]; decide)]; exact zhR s w hg l hl hr
def PaV (w w' : World) (r : Sum (List (ByteArray × List Nd)) (Int × Int)) (e : Ending) : Prop := match r with
 | .inr p => e = .returned (.tuple #[.slice none 0 0, .agg #[.int .i64 p.1, .int .i64 p.2]])
 | .inl gs => ∃ v ns, gs = [(⟨#[]⟩, ns)] /\ e = .returned (.tuple #[v, .agg #[.int .i64 0, .int .i64 0]]) /\ w'.ownsRow w.heap.size 51 7 v ns.length (T.ndc ns)
theorem znP (s : ByteArray) (w : World) (hg : GW w) (q : Nat × Int) (hq : zcl (zaz s) s = .inr q) : Calls Tryz.prog 19 #[.string s] w fun e w' => e = .returned (.tuple #[.slice none 0 0, .agg #[.int .i64 q.1, .int .i64 q.2]]) /\ Below w.heap.size w w' := by
 have hmf : ∀ (fn : Fn) (first cap : Array Value) (w : World), (Instr.makeFunc fn first cap).run Tryz.prog w = .ok (.func fn first cap) w := fun _ _ _ _ => rfl
 have HB0 : Hid (Below w.heap.size w (w.alloc fxZ) /\ FX (w.alloc fxZ) w.heap.size 0 0) := ⟨zaa _ _, ⟨heap_alloc_new w _⟩⟩
 have HN : Hid (∀ _ : Unit, Calls Tryz.prog 40 #[.string s] (w.alloc fxZ) fun e w' => e = pnc q.1 q.2 /\ Below (w.alloc fxZ).heap.size (w.alloc fxZ) w') := fun _ => zdU s _ (hg.later HB0.out.1) q hq (zlh hq).2
 clear hg hq
 go_enter_defers Tryz.func19, Tryz.ntmps19
 go_wp2_with fail
 generalize w.alloc fxZ = w0 at *
 refine (HN.out ()).mono ?_
 rintro e w1 ⟨rfl, hb⟩
 have hsz := HB0.out.1.size
 exact zrc rfl rfl rfl (HB0.out.2.below hb) fun W' hW' => ⟨rfl, (HB0.out.1.trans (hb.mono hsz)).trans hW'⟩
theorem zjx (s : ByteArray) (w : World) (hg : GW w) (l : List Tk) (hl : zcl (zaz s) s = .inl l) : Calls Tryz.prog 19 #[.string s] w fun e w' => PaV w w' (fin (mkE l) s.size (alN (mkE l))) e /\ Below w.heap.size w w' := by
 have hE := zlj hl
 have hz := hE.z
 have hk0 := zl2 hl
 have hmf : ∀ (fn : Fn) (first cap : Array Value) (w : World), (Instr.makeFunc fn first cap).run Tryz.prog w = .ok (.func fn first cap) w := fun _ _ _ _ => rfl
 have HB0 : Hid (Below w.heap.size w (w.alloc fxZ) /\ FX (w.alloc fxZ) w.heap.size 0 0) := ⟨zaa _ _, ⟨heap_alloc_new w _⟩⟩
 have hgw := hg.later HB0.out.1
 have HN : Hid (∀ _ : Unit, Calls Tryz.prog 40 #[.string s] (w.alloc fxZ) fun e w' => ∃ b tv, e = .returned (.pointer (some ⟨b, 0, none⟩)) /\ RS (mkE l) s.size (w.alloc fxZ) w' b tv 0 0 (.slice none 0 0) []) := fun _ => zcK s _ hgw l hl
 have HVB : Hid (R.VB (w.alloc fxZ)) := hgw.v
 have HTx : Hid (∀ rs, alN (mkE l) = .inl rs -> ∀ r ∈ rs, (∀ n ∈ r.2.2, n.tx.size <= 65536) /\ r.2.2.length <= 2000000000000) := fun rs h => al_tx hE h
 have HE : Hid (OkE (mkE l) /\ (∀ a, a < (mkE l).l.length -> ¬ kdA (mkE l) a = 0)) := ⟨hE, hk0⟩
 clear hg hgw hl hE hk0
 generalize mkE l = E at *
 go_enter_defers Tryz.func19, Tryz.ntmps19
 go_wp2_with fail
 generalize w.alloc fxZ = w0 at *
 refine (HN.out ()).mono ?_
 rintro e w1 ⟨b, tv, rfl, h1⟩
 have HRu : Hid (∀ _ : Unit, Calls Tryz.prog 41 #[.pointer (some ⟨b, 0, none⟩)] w1 fun e W' => AlV E s.size w0 (alN E) e W') := fun _ => zdg HE.out.1 HE.out.2 HVB.out h1
 have hsz := HB0.out.1.size
 clear h1 HN
 cases hrd : alN E with
 | inr q =>
  rw [hrd] at HRu
  go_wp2_with fail
  refine (HRu.out ()).mono ?_
  rintro e w3 ⟨rfl, hb⟩
  exact zrc rfl rfl rfl (HB0.out.2.below hb) fun W' hW' => ⟨by rw [hrd]; rfl, (HB0.out.1.trans (hb.mono hsz)).trans hW'⟩
 | inl rs =>
  have hx1 := HTx.out rs hrd
  rw [hrd] at HRu
  go_wp2_with fail
  refine (HRu.out ()).mono ?_
  rintro e w3 ⟨A, c, ns, hrs, rfl, ho, hb3⟩
  have hs3 := hb3.size
  have HGr : Hid (∀ _ : Unit, Calls Tryz.prog 39 #[.slice (some ⟨w3.heap.size, 0, none⟩) 1 1] (w3.alloc (.cells #[.int .i64 (plA E s.size 0), .string ⟨#[]⟩, .slice A ns.length c] 79)) fun e W' => GrV w0 (w3.alloc (.cells #[.int .i64 (plA E s.size 0), .string ⟨#[]⟩, .slice A ns.length c] 79)) [((0, ⟨#[]⟩, ns), .slice A ns.length c)] (szR E s.size rs) e W') := fun _ => by
   rw [hrs]
   refine zcx (ov := [((0, ⟨#[]⟩, ns), .slice A ns.length c)]) (zl3 hs3 ns _) ⟨fun x hx => by rw [List.mem_singleton.1 hx]; exact ho.alloc _, List.pairwise_singleton _ _⟩ ?_ ?_ (by simp)
   ·intro x hx; rw [List.mem_singleton.1 hx]; exact (hx1 (0, ⟨#[]⟩, ns) (by rw [hrs]; exact List.mem_singleton.2 rfl)).1
   ·intro x hx; rw [List.mem_singleton.1 hx]; exact (hx1 (0, ⟨#[]⟩, ns) (by rw [hrs]; exact List.mem_singleton.2 rfl)).2
  have HB3 : Hid (Below w0.heap.size w0 (w3.alloc (.cells #[.int .i64 (plA E s.size 0), .string ⟨#[]⟩, .slice A ns.length c] 79)) /\ (w3.alloc (.cells #[.int .i64 (plA E s.size 0), .string ⟨#[]⟩, .slice A ns.length c] 79)).ownsRow w0.heap.size 51 7 (.slice A ns.length c) ns.length (T.ndc ns) /\ rs = [(0, ⟨#[]⟩, ns)]) := ⟨hb3.alloc hs3 _, ho.alloc _, hrs⟩
  clear ho hrs hb3 HRu HTx hx1
  generalize plA E s.size 0 = p0 at *
  cases hsr : szR E s.size rs with
  | some p =>
   rw [hsr] at HGr
   go_wp2_with fail
   refine (HGr.out ()).mono ?_
   rintro e w4 ⟨rfl, hb⟩
   have hb4 := HB3.out.1.trans (hb.mono HB3.out.1.size)
   exact zrc rfl rfl rfl (HB0.out.2.below hb4) fun W' hW' => ⟨by rw [hrd]; unfold fin; simp only [hsr]; rfl, (HB0.out.1.trans (hb4.mono hsz)).trans hW'⟩
  | none =>
   rw [hsr] at HGr
   go_wp2_with fail
   refine (HGr.out ()).mono ?_
   rintro e w4 ⟨gu, rfl, ho, hb⟩
   obtain ⟨g4, n4, rfl, _, hglt⟩ := ho.form (by simp)
   have hcl := ho.cells (g := g4) rfl
   have hb4 := HB3.out.1.trans (hb.mono HB3.out.1.size)
   have hcell : w4.cell? ⟨g4, 1, none⟩ = some (.slice A ns.length c) := by
    have := hcl 1 (.slice A ns.length c) rfl
    rwa [Addr.add_lit, Nat.zero_add] at this
   have HO : Hid ((w4.alloc (.cells #[.slice (some ⟨g4, 0, none⟩) 1 n4] 33)).ownsRow w0.heap.size 51 7 (.slice A ns.length c) ns.length (T.ndc ns) /\ Below w0.heap.size w0 (w4.alloc (.cells #[.slice (some ⟨g4, 0, none⟩) 1 n4] 33)) /\ FX (w4.alloc (.cells #[.slice (some ⟨g4, 0, none⟩) 1 n4] 33)) w.heap.size 0 0) := ⟨zoY (zoY HB3.out.2.1 hb) (zaa _ _), hb4.alloc hb4.size _, (HB0.out.2.below hb4).below (zaa _ _)⟩
   have hcell2 := ((zaa w4 (.cells #[.slice (some ⟨g4, 0, none⟩) 1 n4] 33)).cell (p := ⟨g4, 1, none⟩) hglt).trans hcell
   have hg0 : (w4.alloc (.cells #[.slice (some ⟨g4, 0, none⟩) 1 n4] 33)).cell? ⟨w4.heap.size, 0, none⟩ = some (.slice (some ⟨g4, 0, none⟩) 1 n4) := (GX.mk (heap_alloc_new w4 _)).cl
   have hf4 := HB0.out.2.below hb4
   have d0 := hf4.c0
   have d1 := hf4.c1
   have e0 := hf4.f0
   have e1 := hf4.f1
   have d0' := HO.out.2.2.c0
   have d1' := HO.out.2.2.c1
   have e0' := HO.out.2.2.f0
   have e1' := HO.out.2.2.f1
   clear hcl ho hb hb4 HGr hcell hf4
   go_wp2_with fail
   exact doorB rfl rfl rfl (zen HO.out.2.2 0 0) ⟨by rw [hrd]; unfold fin; simp only [hsr]; exact ⟨_, ns, by rw [HB3.out.2.2]; rfl, rfl, zaV (zaD HO.out.1 fun j hj => zcA 0 0 (FX.ne2 HO.out.2.2 HO.out.1 (by decide) hj)) hsz⟩, zci (HB0.out.1.trans (HO.out.2.1.mono hsz)) (Nat.le_refl _) 0 0⟩
theorem znQ (s : ByteArray) (w : World) (hg : GW w) : Calls Tryz.prog 19 #[.string s] w fun e w' => PaV w w' (paR s) e /\ Below w.heap.size w w' := by
 unfold paR
 cases hl : zcl (zaz s) s with
 | inr q => exact znP s w hg q hl
 | inl l => exact zjx s w hg l hl
theorem ziL (a b c d : Int) (W : World) : (binOp .eql 39 (.agg #[.int .i64 a, .int .i64 b]) (.agg #[.int .i64 c, .int .i64 d])).run Tryz.prog W = .ok (.bool (a == c && b == d)) W := by
 have h := eq26 a b c d W
 have e : Op.maxDepth = 10000 := rfl
 simp [binOp, Op.equal, e, h]
theorem zrd (L : List (Rl × Value)) : ∀ (k j : Nat) (x : Rl × Value) (u : Value), L[k]? = some x -> (grV x)[j]? = some u -> (grc L)[k * 2 + j]? = some u := by
 induction L with
 | nil => intro k j t u h; simp at h
 | cons a L ih =>
  intro k j t u h hj
  have e : grc (a :: L) = grV a ++ grc L := by unfold grc; rw [List.flatMap_cons]
  have hl : (grV a).length = 2 := rfl
  rw [e]
  cases k with
  | zero =>
   have h : a = t := by simpa using h
   subst h
   rw [Nat.zero_mul, Nat.zero_add, List.getElem?_append_left (by have := (List.getElem?_eq_some_iff.1 hj).1; omega)]
   exact hj
  | succ k =>
   rw [List.getElem?_append_right (by omega), hl, show (k + 1) * 2 + j - 2 = k * 2 + j from by omega]
   exact ih k j t u (by simpa using h) hj
theorem own_gr {W : World} {B : Nat} {u : Value} {ov : List (Rl × Value)} (h : W.ownsRow B 73 2 u ov.length (grc ov)) : ∃ A c, u = .slice A ov.length c /\ ∀ (k : Nat) x, ov[k]? = some x -> ∃ g, A = some ⟨g, 0, none⟩ /\ g < W.heap.size /\ W.cell? ⟨g, k * 2, none⟩ = some (.string x.1.2.1) /\ W.cell? ⟨g, k * 2 + 1, none⟩ = some x.2 := by
 have hc := h
 rcases h.2 with ⟨rfl, h0⟩ | ⟨g, cap, cur, rfl, _⟩
 ·refine ⟨none, 0, by rw [h0], fun k x hk => ?_⟩
  rw [List.eq_nil_of_length_eq_zero h0] at hk
  simp at hk
 ·refine ⟨_, cap, rfl, fun k x hk => ⟨g, rfl, (hc.lt g rfl).2, ?_⟩⟩
  have key : ∀ j u, (grV x)[j]? = some u -> W.cell? ⟨g, k * 2 + j, none⟩ = some u := fun j u hj => by
   have := (hc.cells (g := g) rfl) (k * 2 + j) u (zrd ov k j x u hk hj)
   rwa [Addr.add_lit, Nat.zero_add] at this
  exact ⟨key 0 _ rfl, key 1 _ rfl⟩
open Go.Proofs.YtnpifgcgjgddoaaGreatDoor.T (RdN below_drewN node_neq ndE)
theorem zre (A1 A2 : Option Addr) (c1 c2 : Nat) (L : List Nd) (hl : L.length <= 140737488355328) (w : World) (h1 : RdN w A1 L) (h2 : RdN w A2 L) :
  Calls Tryz.prog 20 #[.slice A1 L.length c1, .slice A2 L.length c2] w fun e w' => e = .returned (.bool true) /\ ∃ m, w' = w.drewN m := by
 have H1 := hO h1
 have H2 := hO h2
 have HG : Hid (∀ k, k < L.length -> ∃ m, L[k]? = some m /\ L ≠ []) := fun k hk => ⟨_, List.getElem?_eq_getElem hk, by rintro rfl; simp at hk⟩
 clear h1 h2
 go_enter Tryz.func20, Tryz.ntmps20
 go_wp2_with fail
 go_loopw [5] (fun t wr => ∃ k : Nat, k <= L.length /\ t = .int .i64 k /\ Hid (∃ m, wr = w.drewN m)) (fun t _ => L.length - (intOf t).toNat)
 case atStart => exact ⟨0, by omega, by go_num, ⟨0, rfl⟩⟩
 case round =>
  obtain ⟨k, hk, rfl, HW⟩ := hrel
  by_cases hlt : k < L.length
  ·obtain ⟨n, hn1, nl⟩ := HG.out k hlt
   have hB : Below w.heap.size w wr := by obtain ⟨m, rfl⟩ := HW.out; exact below_drewN (Below.refl _ _) _
   obtain ⟨g1, o1, rfl, l1, q1⟩ := H1.out nl
   obtain ⟨g2, o2, rfl, l2, q2⟩ := H2.out nl
   obtain ⟨a0, a1, a2, a3, a4, a5, a6⟩ := (q1.same (hB.block g1 l1)) k n hn1
   obtain ⟨d0, d1, d2, d3, d4, d5, d6⟩ := (q2.same (hB.block g2 l2)) k n hn1
   have z0 : (0 : Int) <= (k : Int) := by omega
   have z1 : (k : Int) < (L.length : Int) := by omega
   clear HG H1 H2 q1 q2 nl hn1 hB
   have hneq := node_neq n n
   rw [T.zmz] at hneq
   go_wp2_with fail
   go_quiet (fail)
   have HW2 : Hid (∃ m, wr.drewN nq = w.drewN m) := by obtain ⟨m, e⟩ := HW.out; exact ⟨m + nq, by rw [e, World.drewN_drewN]⟩
   generalize wr.drewN nq = w2 at *
   clear hneq a0 a1 a2 a3 a4 a5 a6 d0 d1 d2 d3 d4 d5 d6 HW
   go_wp2_with fail
   go_roundw
   case rel => exact ⟨k + 1, by omega, by go_num, HW2⟩
   case measure => simp [intOf]; omega
  ·obtain rfl : k = L.length := by omega
   clear HG H1 H2
   go_wp2_with fail
   go_ret
   exact ⟨rfl, HW.out⟩
def GrR (W : World) (u : Value) (gs : List (ByteArray × List Nd)) : Prop := ∃ A c, u = .slice A gs.length c /\ ∀ (k : Nat) g, gs[k]? = some g -> ∃ b o A2 c2, A = some ⟨b, o, none⟩ /\ b < W.heap.size /\ W.cell? ⟨b, o + k * 2, none⟩ = some (.string g.1) /\ W.cell? ⟨b, o + k * 2 + 1, none⟩ = some (.slice A2 g.2.length c2) /\ RdN W A2 g.2
theorem GrR.later {W W' : World} {u : Value} {gs : List (ByteArray × List Nd)} (h : GrR W u gs) (hb : Below W.heap.size W W') : GrR W' u gs := by
 obtain ⟨A, c, e, h⟩ := h
 refine ⟨A, c, e, fun k g hg => ?_⟩
 obtain ⟨b, o, A2, c2, h1, h2, h3, h4, h5⟩ := h k g hg
 exact ⟨b, o, A2, c2, h1, Nat.lt_of_lt_of_le h2 hb.size, (hb.cell (p := ⟨b, o + k * 2, none⟩) h2).trans h3, (hb.cell (p := ⟨b, o + k * 2 + 1, none⟩) h2).trans h4, h5.below hb (Nat.le_refl _)⟩
theorem GrR.of {w W : World} {u : Value} {ov : List (Rl × Value)} (h : W.ownsRow w.heap.size 73 2 u ov.length (grc ov)) (hb : Bds w W ov) : GrR W u (ov.map fun x => x.1.2) := by
 obtain ⟨A, c, e, hc⟩ := own_gr h
 refine ⟨A, c, by rw [List.length_map]; exact e, fun k g hg => ?_⟩
 rw [List.getElem?_map] at hg
 cases hx : ov[k]? with
 | none => rw [hx] at hg; cases hg
 | some x =>
  rw [hx] at hg
  obtain rfl : x.1.2 = g := by simpa using hg
  obtain ⟨b, h1, h2, h3, h4⟩ := hc k x hx
  obtain ⟨A2, c2, h5, h6⟩ := T.zlW (hb.e x (List.mem_of_getElem? hx)) rfl
  exact ⟨b, 0, A2, c2, h1, h2, by rw [Nat.zero_add]; exact h3, by rw [Nat.zero_add, h4, h5], h6⟩
structure AtG (w wr : World) (u1 u2 : Value) (gs : List (ByteArray × List Nd)) : Prop where
 b : Below w.heap.size w wr
 x1 : GX wr w.heap.size u1
 x2 : GX wr (w.heap.size + 1) u2
 r1 : GrR wr u1 gs
 r2 : GrR wr u2 gs
theorem AtG.later {w wr W' : World} {u1 u2 : Value} {gs : List (ByteArray × List Nd)} (h : AtG w wr u1 u2 gs) (hb : Below wr.heap.size wr W') : AtG w W' u1 u2 gs :=
 ⟨h.b.trans (hb.mono h.b.size), h.x1.below hb, h.x2.below hb, h.r1.later hb, h.r2.later hb⟩
theorem zgQ {gs : List (ByteArray × List Nd)} (hl : ∀ g ∈ gs, g.2.length <= 2048) (hn : gs.length <= 200) {w : World} {u1 u2 : Value} (h1 : GrR w u1 gs) (h2 : GrR w u2 gs) : Calls Tryz.prog 22 #[.agg #[u1], .agg #[u2]] w fun e w' => e = .returned (.bool true) /\ Below w.heap.size w w' := by
 have HA := (show Hid (AtG w ((w.alloc (.cells #[u1] 33)).alloc (.cells #[u2] 33)) u1 u2 gs) from
  ⟨((Below.refl _ _).alloc (Nat.le_refl _) _).alloc (by rw [World.size_alloc]; omega) _, (GX.mk (heap_alloc_new w _)).below (zaa _ _), ⟨by have h := heap_alloc_new (w.alloc (.cells #[u1] 33)) (.cells #[u2] 33); rw [World.size_alloc] at h; exact h⟩, (h1.later (zaa _ _)).later (zaa _ _), (h2.later (zaa _ _)).later (zaa _ _)⟩)
 obtain ⟨A1, c1, rfl, _⟩ := h1
 obtain ⟨A2, c2, rfl, _⟩ := h2
 have HG : Hid (∀ k, k < gs.length -> ∃ g, gs[k]? = some g /\ g.2.length <= 2048) := fun k hk => ⟨_, List.getElem?_eq_getElem hk, hl _ (List.getElem_mem hk)⟩
 clear hl
 have q1 := HA.out.x1.cl
 have q2 := HA.out.x2.cl
 go_enter Tryz.func22, Tryz.ntmps22
 go_wp2_with fail
 generalize (w.alloc (.cells #[.slice A1 gs.length c1] 33)).alloc (.cells #[.slice A2 gs.length c2] 33) = w1 at *
 go_wp2_with fail
 clear q1 q2
 go_loopw [5] (fun t wr => ∃ k : Nat, k <= gs.length /\ t = .int .i64 k /\ Hid (AtG w wr (.slice A1 gs.length c1) (.slice A2 gs.length c2) gs)) (fun t _ => gs.length - (intOf t).toNat)
 case atStart => exact ⟨0, by omega, by go_num, HA⟩
 case round =>
  obtain ⟨k, hk, rfl, HW⟩ := hrel
  clear HA
  have q1 := HW.out.x1.cl
  have q2 := HW.out.x2.cl
  by_cases hlt : k < gs.length
  ·obtain ⟨g, hg, hgl⟩ := HG.out k hlt
   obtain ⟨A3, c3, e3, hc3⟩ := HW.out.r1
   obtain ⟨A4, c4, e4, hc4⟩ := HW.out.r2
   obtain ⟨b1, o1, B1, d1, hA1, l1, y0, y1, r1⟩ := hc3 k g hg
   obtain ⟨b2, o2, B2, d2, hA2, l2, x0, x1, r2⟩ := hc4 k g hg
   cases e3
   cases e4
   subst hA1 hA2
   have HS : Hid (∀ n, Calls Tryz.prog 20 #[.slice B1 g.2.length d1, .slice B2 g.2.length d2] (wr.drewN n) fun e w' => e = .returned (.bool true) /\ ∃ m, w' = (wr.drewN n).drewN m) := fun n => zre B1 B2 d1 d2 g.2 (by omega) _ (r1.below (below_drewN (Below.refl _ _) _) (Nat.le_refl _)) (r2.below (below_drewN (Below.refl _ _) _) (Nat.le_refl _))
   have z0 : (0 : Int) <= (k : Int) := by omega
   have z1 : (k : Int) < (gs.length : Int) := by omega
   clear HG hc3 hc4 r1 r2 hg hgl
   generalize g.2.length = gl at *
   generalize g.1 = nm at *
   go_wp2_with fail
   go_quiet ((go_at_call 20; exact Calls.quiet_of (HS.out _)))
   have HW2 : Hid (AtG w (wr.drewN nq) (.slice (some ⟨b1, o1, none⟩) gs.length c1) (.slice (some ⟨b2, o2, none⟩) gs.length c2) gs) := HW.out.later (below_drewN (Below.refl _ _) _)
   generalize wr.drewN nq = w2 at *
   clear HW q1 q2 y0 y1 x0 x1
   go_wp2_with fail
   go_roundw
   case rel => exact ⟨k + 1, by omega, by go_num, HW2⟩
   case measure => simp [intOf]; omega
  ·obtain rfl : k = gs.length := by omega
   clear HG
   go_wp2_with fail
   go_ret
   exact ⟨rfl, HW.out.b⟩
def lnI (g : ByteArray × List Nd) : List It := (if g.1.size = 0 then [] else [txI 1 g.1, none, sgI 6, none]) ++ shI g.2
def grT (gs : List (ByteArray × List Nd)) : List UInt8 := gs.flatMap fun g => itT (lnI g) ++ [10]
def grK (gs : List (ByteArray × List Nd)) : List Tk := gs.flatMap fun g => zbu (lnI g)
theorem ln_ok {g : ByteArray × List Nd} (h : ShE (shI g.2)) (hn : zeK g.1 = true ∨ g.1.size = 0) : okI (lnI g) /\ (∀ t ∈ zbu (lnI g), Rgt t) := by
 unfold lnI
 by_cases h0 : g.1.size = 0
 ·rw [if_pos h0]
  exact ⟨h.ok, h.rt⟩
 ·rw [if_neg h0]
  have hn : zeK g.1 = true := by
   rcases hn with q | q
   ·exact q
   ·exact absurd q h0
  refine ⟨zcM ⟨(fun v q => by cases q), (fun v q => by cases q), trivial⟩ h.ok (fun t u q _ => by cases q), fun t ht => ?_⟩
  rw [mem_tks, List.mem_append] at ht
  rcases ht with q | q
  ·simp only [List.mem_cons, List.not_mem_nil, or_false] at q
   rcases q with q | q | q | q
   ·cases q; exact zlG hn
   ·cases q
   ·cases q; exact zb1 (by decide) (by decide) (by decide) (by decide)
   ·cases q
  ·exact h.rt t (mem_tks.2 q)
theorem gr_chn : ∀ (gs : List (ByteArray × List Nd)), (∀ g ∈ gs, ShE (shI g.2) /\ (zeK g.1 = true ∨ g.1.size = 0)) -> ∀ p : List UInt8, ∃ M, Chn (tx8 (p ++ grT gs)) p.length M /\ M.map lkT = (grK gs).map lkT := by
 intro gs
 induction gs with
 | nil =>
  intro _ p
  refine ⟨[], ?_, rfl⟩
  show zbT (tx8 (p ++ [])) p.length = (tx8 (p ++ [])).size
  rw [List.append_nil]
  exact zk8 (tx8 p)
 | cons g r ih =>
  intro h p
  have hg := h g (List.mem_cons_self)
  obtain ⟨k1, k2⟩ := ln_ok hg.1 hg.2
  obtain ⟨M, h1, h2⟩ := ih (fun x hx => h x (List.mem_cons_of_mem _ hx)) (p ++ (itT (lnI g) ++ [10]))
  have e1 : p ++ (itT (lnI g) ++ [10]) ++ grT r = p ++ (itT (lnI g) ++ (10 :: grT r)) := by simp
  have e2 : p ++ grT (g :: r) = p ++ (itT (lnI g) ++ (10 :: grT r)) := by
   show p ++ ((itT (lnI g) ++ [10]) ++ grT r) = _
   simp
  rw [e1] at h1
  rw [e2]
  have h0 : chr (tx8 (p ++ (itT (lnI g) ++ (10 :: grT r)))) (p.length + (itT (lnI g)).length) = 10 := by
   rw [<- List.append_assoc, <- List.length_append, at0]
   rfl
  have h3 : Chn (tx8 (p ++ (itT (lnI g) ++ (10 :: grT r)))) (p.length + (itT (lnI g)).length) M := by
   refine zoq h0 (.inr rfl) ?_
   have : (p ++ (itT (lnI g) ++ [10])).length = p.length + (itT (lnI g)).length + 1 := by simp only [List.length_append, List.length_singleton]; omega
   rw [<- this]
   exact h1
  obtain ⟨l2, h4, h5⟩ := zlF (lnI g) k1 (fun t ht => ⟨(k2 t ht).r, (k2 t ht).b⟩) p (10 :: grT r) M (fun _ _ => rfl) h3
  refine ⟨l2 ++ M, h4, ?_⟩
  rw [List.map_append, h5, h2, <- List.map_append]
  rfl
theorem zec (g : ByteArray × List Nd) (r : List (ByteArray × List Nd)) : grK (g :: r) = zbu (lnI g) ++ grK r := rfl
theorem zed {g : ByteArray × List Nd} (h : 0 < g.1.size) : zbu (lnI g) = ⟨1, 0, 0, 0, g.1, 0, 0, 0, 0⟩ :: ⟨6, 0, 0, 0, ⟨#[]⟩, 0, 0, 0, 0⟩ :: zbu (shI g.2) := by
 unfold lnI
 rw [if_neg (by omega)]
 rfl
theorem zrf {E : PE} {a : Nat} {r : List (ByteArray × List Nd)} (hn : ∀ g ∈ r, 0 < g.1.size) (ho : Occ E a (grK r)) (he : a + (grK r).length = E.l.length) : noS E a /\ bgn E a = false /\ kdA E a ≠ 7 /\ kdA E a ≠ 6 := by
 cases r with
 | nil =>
  have : a = E.l.length := by simpa [grK] using he
  subst this
  exact zot
 | cons g r =>
  have hg := hn g (List.mem_cons_self)
  rw [zec, zed hg] at ho
  have k1 := ho.left.tk
  have k2 := ho.left.next.tk
  have q1 : kdA E a = 1 := k1.2.1
  have q2 : kdA E (a + 1) = 6 := k2.2.1
  refine ⟨zgI (by omega) (by omega) (by omega) (by omega) (by omega) (by omega) (by omega), ?_, by omega, by omega⟩
  unfold bgn
  rw [q1, q2]
  rfl
theorem zrg {E : PE} (hE : E.tm = T.tmB) : ∀ (gs : List (ByteArray × List Nd)) (i f : Nat) (out : List Rl), (∀ g ∈ gs, T.Rt g.2 /\ 0 < g.1.size) -> Occ E i (grK gs) -> i + (grK gs).length = E.l.length -> gs.length < f -> ∃ rs, rlG (exN E) E f i out = .inl (out ++ rs) /\ rs.map (fun r => r.2) = gs := by
 intro gs
 induction gs with
 | nil =>
  intro i f out _ _ he hf
  obtain ⟨f, rfl⟩ : ∃ f', f = f' + 1 := ⟨f - 1, by omega⟩
  have : i = E.l.length := by simpa [grK] using he
  refine ⟨[], ?_, rfl⟩
  rw [rlG, if_neg (by omega), List.append_nil]
 | cons g r ih =>
  intro i f out h ho he hf
  obtain ⟨f, rfl⟩ : ∃ f', f = f' + 1 := ⟨f - 1, by simp only [List.length_cons] at hf; omega⟩
  have hg := h g (List.mem_cons_self)
  rw [zec, zed hg.2] at ho he
  have k1 := ho.left.tk
  have k2 := ho.left.next.tk
  have q1 : kdA E i = 1 := k1.2.1
  have q2 : kdA E (i + 1) = 6 := k2.2.1
  have o3 := ho.left.next.next
  have o4 : Occ E (i + 2 + (zbu (shI g.2)).length) (grK r) := by
   have := ho.right
   rw [List.length_cons, List.length_cons, show i + ((zbu (shI g.2)).length + 1 + 1) = i + 2 + (zbu (shI g.2)).length from by omega] at this
   exact this
  have he2 : i + 2 + (zbu (shI g.2)).length + (grK r).length = E.l.length := by
   rw [List.length_append, List.length_cons, List.length_cons] at he
   omega
  obtain ⟨n1, n2, n3, n4⟩ := zrf (fun x hx => (h x (List.mem_cons_of_mem _ hx)).2) o4 he2
  obtain ⟨hh, hd⟩ := zos hg.1
  have s0 := (hd E (i + 2) 0 hE o3 n4 (by omega)).s0
  have hx : exN E (i + 2) = .inl (i + 2 + (zbu (shI g.2)).length, g.2) := by
   rw [<- zjO, s0.e n1 n2, zqs s0.r n3, zdK]
  obtain ⟨rs, r1, r2⟩ := ih (i + 2 + (zbu (shI g.2)).length) f (out ++ [(i, (tkA E i).tx, g.2)]) (fun x hx => h x (List.mem_cons_of_mem _ hx)) o4 he2 (by rw [List.length_cons] at hf; omega)
  refine ⟨(i, (tkA E i).tx, g.2) :: rs, ?_, ?_⟩
  ·rw [rlG, if_pos k1.1, if_pos (by unfold ruB; rw [q1, q2]; rfl), hx]
   dsimp only
   rw [r1, List.append_assoc]
   rfl
  ·rw [List.map_cons, r2, k1.2.2.2.2.1]
theorem ru_ex2 {E : PE} (h : ruB E 0 = true) : exN E 0 = .inr (0, 60) := by
 have hb : bgn E 0 = false := by
  unfold ruB at h
  simp only [Bool.and_eq_true, beq_iff_eq] at h
  unfold bgn
  rw [h.1, h.2]
  rfl
 rw [<- zjO, g0 E 0 0 (Nat.zero_le _), g2 E 0 0 (Nat.zero_le _), g4 E 0 0 (Nat.zero_le _), if_neg (by rw [hb]; decide)]
 rfl
theorem zrh (E : PE) (z : Nat) : ∀ (rs : List Rl) (all : Nat), (∀ r ∈ rs, (T.ck r.2.2).2 = 0) -> all + (rs.map fun r => r.2.2.length).sum <= 2048 -> zhj E z all rs = none := by
 intro rs
 induction rs with
 | nil => intro all _ _; rfl
 | cons r rs ih =>
  intro all h hs
  rw [List.map_cons, List.sum_cons] at hs
  rw [zhj, if_neg (by rw [h r (List.mem_cons_self)]; decide), if_neg (by omega)]
  exact ih _ (fun x hx => h x (List.mem_cons_of_mem _ hx)) (by omega)
structure GrK (gs : List (ByteArray × List Nd)) : Prop where
 one : 1 <= gs.length
 len : gs.length <= 200
 rt : ∀ g ∈ gs, T.Rt g.2
 nw : ∀ g ∈ gs, ∀ n ∈ g.2, NdW n
 nm : ∀ g ∈ gs, zeK g.1 = true ∨ (g.1.size = 0 /\ gs.length = 1)
 sum : (gs.map fun g => g.2.length).sum <= 2048
theorem zri {gs : List (ByteArray × List Nd)} (h : GrK gs) (hl : (grT gs).length <= 65536) : psR (txO (grT gs)) = .inl gs := by
 obtain ⟨M, h1, h2⟩ := gr_chn gs (fun g hg => ⟨ziF (h.rt g hg) (h.nw g hg), by
  rcases h.nm g hg with q | q
  ·exact .inl q
  ·exact .inr q.1⟩) []
 rw [List.nil_append] at h1
 have hlx : zcl (zaz (txO (grT gs))) (txO (grT gs)) = .inl M := zff hl h1
 obtain ⟨o1, o2⟩ := zou h2 (E := mkE M) rfl
 have key : ∃ rs, rdN (mkE M) = .inl rs /\ rs.map (fun r => r.2) = gs := by
  by_cases hnm : ∀ g ∈ gs, 0 < g.1.size
  ·obtain ⟨rs, r1, r2⟩ := zrg (E := mkE M) rfl gs 0 ((mkE M).l.length + 1) [] (fun g hg => ⟨h.rt g hg, hnm g hg⟩) o1 (by rw [Nat.zero_add]; exact o2) (by
    have : gs.length <= (grK gs).length := by
     clear h h1 h2 hlx o1 o2 hl
     induction gs with
     | nil => exact Nat.le_refl _
     | cons g r ih =>
      have := ih (fun x hx => hnm x (List.mem_cons_of_mem _ hx))
      rw [zec, List.length_append, zed (hnm g (List.mem_cons_self)), List.length_cons, List.length_cons, List.length_cons]
      omega
    omega)
   refine ⟨rs, ?_, r2⟩
   have hru : ruB (mkE M) 0 = true := by
    cases hq : gs with
    | nil => have := h.one; rw [hq] at this; simp at this
    | cons g r =>
     rw [hq] at o1
     rw [zec, zed (hnm g (by rw [hq]; exact List.mem_cons_self))] at o1
     have q1 : kdA (mkE M) 0 = 1 := o1.left.tk.2.1
     have q2 : kdA (mkE M) (0 + 1) = 6 := o1.left.next.tk.2.1
     unfold ruB
     rw [q1, q2]
     rfl
   unfold rdN
   rw [if_pos hru, r1]
   rfl
  ·have hg1 : ∃ g, gs = [g] /\ g.1.size = 0 := by
    obtain ⟨g, hg⟩ := Classical.not_forall.1 hnm
    obtain ⟨hg, hz⟩ := Classical.not_imp.1 hg
    rcases h.nm g hg with q | ⟨q, q2⟩
    ·have := zbs q; omega
    ·obtain ⟨x, hx⟩ := List.length_eq_one_iff.1 q2
     rw [hx, List.mem_singleton] at hg
     subst hg
     exact ⟨g, hx, q⟩
   obtain ⟨g, rfl, hz⟩ := hg1
   have hgm : g ∈ [g] := List.mem_singleton.2 rfl
   have et : grK [g] = zbu (shI g.2) := by
    show zbu (lnI g) ++ [] = _
    unfold lnI
    rw [if_pos hz, List.append_nil]
    rfl
   rw [et] at h2
   have hw := zov (h.rt g hgm) h2
   have hal := zlD hw
   refine ⟨[(0, ⟨#[]⟩, g.2)], ?_, ?_⟩
   ·rw [zof, hal]
    intro hru
    have := ru_ex2 hru
    unfold who at hw
    rw [this] at hw
    cases hw
   ·have : g.1 = ⟨#[]⟩ := zgC (by omega)
    obtain ⟨n, b⟩ := g
    dsimp only at this
    subst this
    rfl
 obtain ⟨rs, r1, r2⟩ := key
 have hrl : rs.length = gs.length := by rw [<- r2, List.length_map]
 have hsz : szR (mkE M) (txO (grT gs)).size rs = none := by
  unfold szR
  rw [List.getElem?_eq_none (by have := h.len; omega)]
  refine zrh _ _ rs 0 (fun r hr => ?_) ?_
  ·have := (h.rt r.2 (by rw [<- r2]; exact List.mem_map_of_mem hr)).ck
   rw [this]
  ·have := h.sum
   rw [<- r2, List.map_map] at this
   rw [Nat.zero_add]
   exact this
 unfold psR
 rw [hlx]
 dsimp only
 rw [r1]
 unfold fin
 dsimp only
 rw [hsz]
 dsimp only
 rw [r2]
def nmN (s : ByteArray) : Nd := ⟨6, 0, s, 0, 0, 0, 0⟩
theorem ck_nm (s : ByteArray) : ((T.ck [nmN s]).2 == 0) = T.nmB s := by
 have e : (⟨#[]⟩ : ByteArray) = ByteArray.empty := rfl
 cases h : T.nmB s <;> simp [nmN, T.ck, T.zjA, T.er, T.alE, T.fdF, T.txF, T.nuF, T.seF, T.ar, T.run, T.pt, T.mk, T.arN, T.zcR, h]
theorem ziM (w : World) (L : List Nd) (h0 : L.length <= 2048) (c : Array Value) (hc : c.toList = T.ndc L) : T.RdN (w.alloc (.cells c 51)) (some ⟨w.heap.size, 0, none⟩) L := fun _ => by
 refine ⟨w.heap.size, 0, rfl, by rw [World.size_alloc]; omega, ?_⟩
 refine T.zg5 (B := w.heap.size) (n := L.length) (cap := L.length) (xs := []) ?_
 rw [List.append_nil]
 have hl := T.zgX L
 exact ⟨hl, .inr ⟨w.heap.size, L.length, c, rfl, Nat.le_refl _, heap_alloc_new w _, Nat.le_refl _, by unfold maxLen; omega, by rw [<- Array.length_toList, hc]; exact hl, by rw [hc]; exact List.take_of_length_le (by omega)⟩⟩
theorem zdF (s : ByteArray) (hs : s.size <= 140737488355328) (W : World) : Calls Tryz.prog 58 #[.string s] W fun e W' => e = .returned (.bool (T.nmB s)) /\ Below W.heap.size W W' := by
 have HC : Hid (∀ _ : Unit, Calls Tryz.prog 25 #[.slice (some ⟨W.heap.size, 0, none⟩) 1 1] (W.alloc (.cells #[.int .i64 6, .int .i64 0, .string s, .int .u64 0, .int .u64 0, .int .u64 0, .int .u64 0] 51)) fun e w' => e = .returned (.tuple #[.int .i64 (T.ck [nmN s]).1, .int .i64 (T.ck [nmN s]).2]) /\ Below (W.alloc (.cells #[.int .i64 6, .int .i64 0, .string s, .int .u64 0, .int .u64 0, .int .u64 0, .int .u64 0] 51)).heap.size (W.alloc (.cells #[.int .i64 6, .int .i64 0, .string s, .int .u64 0, .int .u64 0, .int .u64 0, .int .u64 0] 51)) w') := fun _ =>
  T.za5 [nmN s] (some ⟨W.heap.size, 0, none⟩) 1 (by show 1 <= _; omega) (by intro n hn; rw [List.mem_singleton.1 hn]; exact hs) _ (ziM W [nmN s] (by show 1 <= _; omega) _ rfl)
 have HE : Hid (((T.ck [nmN s]).2 == 0) = T.nmB s) := ck_nm s
 have HB : Hid (Below W.heap.size W (W.alloc (.cells #[.int .i64 6, .int .i64 0, .string s, .int .u64 0, .int .u64 0, .int .u64 0, .int .u64 0] 51))) := zaa _ _
 clear hs
 generalize (T.ck [nmN s]).2 = cc at *
 generalize ((T.ck [nmN s]).1 : Int) = c1 at *
 generalize T.nmB s = nb at *
 go_enter Tryz.func58, Tryz.ntmps58
 go_wp2_with fail
 refine (HC.out ()).mono ?_
 rintro e w1 ⟨rfl, b1⟩
 have HB1 : Hid (Below W.heap.size W w1) := HB.out.trans (b1.mono HB.out.size)
 clear HC b1 HB
 go_wp2_with fail
 go_ret
 exact ⟨by rw [<- HE.out]; rfl, HB1.out⟩
def zgV (len : Nat) : Nat -> List (ByteArray × List Nd) -> Int
 | _, [] => 0
 | nodes, g :: r => if ¬ (g.1.size = 0 /\ len = 1) /\ T.nmB g.1 = false then 6 else if (T.ck g.2).2 ≠ 0 then (T.ck g.2).2 else if 2048 < nodes + g.2.length then 2 else zgV len (nodes + g.2.length) r
def wrR (gs : List (ByteArray × List Nd)) : Int := if gs.length = 0 then 3 else if 200 < gs.length then 2 else zgV gs.length 0 gs
def ndS (gs : List (ByteArray × List Nd)) : Nat -> Nat
 | 0 => 0
 | k + 1 => match gs[k]? with
  | some g => ndS gs k + g.2.length
  | none => ndS gs k
theorem zcV {gs : List (ByteArray × List Nd)} {k : Nat} {g : ByteArray × List Nd} (h : gs[k]? = some g) : ndS gs (k + 1) = ndS gs k + g.2.length := by rw [ndS, h]
def GrD (W : World) (A : Option Addr) (gs : List (ByteArray × List Nd)) : Prop := ∀ (k : Nat) g, gs[k]? = some g -> ∃ b o A2 c2, A = some ⟨b, o, none⟩ /\ b < W.heap.size /\ W.cell? ⟨b, o + k * 2, none⟩ = some (.string g.1) /\ W.cell? ⟨b, o + k * 2 + 1, none⟩ = some (.slice A2 g.2.length c2) /\ T.RdN W A2 g.2
theorem GrD.later {W W' : World} {A : Option Addr} {gs : List (ByteArray × List Nd)} (h : GrD W A gs) (hb : Below W.heap.size W W') : GrD W' A gs := fun k g hg => by
 obtain ⟨b, o, A2, c2, h1, h2, h3, h4, h5⟩ := h k g hg
 exact ⟨b, o, A2, c2, h1, Nat.lt_of_lt_of_le h2 hb.size, (hb.cell (p := ⟨b, o + k * 2, none⟩) h2).trans h3, (hb.cell (p := ⟨b, o + k * 2 + 1, none⟩) h2).trans h4, h5.below hb (Nat.le_refl _)⟩
structure RB (W : World) (b : Nat) (s : ByteArray) (v : Value) : Prop where
 heap : W.heap[b]? = some (.cells #[.string s, v] 73 (0, 0))
theorem RB.lt {W : World} {b : Nat} {s : ByteArray} {v : Value} (h : RB W b s v) : b < W.heap.size := (Array.getElem?_eq_some_iff.1 h.heap).1
theorem RB.c0 {W : World} {b : Nat} {s : ByteArray} {v : Value} (h : RB W b s v) : W.cell? ⟨b, 0, none⟩ = some (.string s) := by rw [cell_of_row W b 0 _ 73 (0, 0) h.heap]; rfl
theorem RB.c1 {W : World} {b : Nat} {s : ByteArray} {v : Value} (h : RB W b s v) : W.cell? ⟨b, 1, none⟩ = some v := by rw [cell_of_row W b 1 _ 73 (0, 0) h.heap]; rfl
theorem RB.same {W W' : World} {b : Nat} {s : ByteArray} {v : Value} (h : RB W b s v) (hb : W'.heap[b]? = W.heap[b]?) : RB W' b s v := ⟨hb.trans h.heap⟩
theorem RB.later {W W' : World} {b : Nat} {s : ByteArray} {v : Value} (h : RB W b s v) (hb : Below W.heap.size W W') : RB W' b s v := h.same (hb.block b h.lt)
theorem zeZ (gs : List (ByteArray × List Nd)) (A : Option Addr) (c : Nat) (hl : gs.length <= 140737488355328) (hT : ∀ g ∈ gs, g.1.size <= 140737488355328 /\ g.2.length <= 140737488355328 /\ ∀ n ∈ g.2, n.tx.size <= 140737488355328) (w : World) (hp : GrD w A gs) :
  Calls Tryz.prog 35 #[.slice A gs.length c] w fun e w' => e = .returned (.int .i64 (wrR gs)) /\ Below w.heap.size w w' := by
 by_cases h0 : gs.length = 0
 ·have HE : Hid (wrR gs = 3) := by show wrR gs = 3; unfold wrR; rw [if_pos h0]
  have t0 : ((gs.length : Int) == 0) = true := beq_iff_eq.2 (by omega)
  clear h0 hp hT
  go_enter Tryz.func35, Tryz.ntmps35
  go_wp2_with fail
  go_ret
  exact ⟨by rw [HE.out]; rfl, Below.refl _ _⟩
 have t0 : ((gs.length : Int) == 0) = false := bF (by omega)
 by_cases h2 : 200 < gs.length
 ·have HE : Hid (wrR gs = 2) := by show wrR gs = 2; unfold wrR; rw [if_neg h0, if_pos h2]
  have t2 : (200 : Int) < (gs.length : Int) := by omega
  clear h0 hp hT h2
  go_enter Tryz.func35, Tryz.ntmps35
  go_wp2_with fail
  go_ret
  exact ⟨by rw [HE.out]; rfl, Below.refl _ _⟩
 have t2 : ¬ (200 : Int) < (gs.length : Int) := by omega
 have HE : Hid (wrR gs = zgV gs.length (ndS gs 0) (gs.drop 0)) := by show wrR gs = _; unfold wrR; rw [if_neg h0, if_neg h2]; rfl
 have HP : Hid (GrD w A gs) := hp
 have HG : Hid (∀ k, k < gs.length -> ∃ g, gs[k]? = some g /\ g.1.size <= 140737488355328 /\ g.2.length <= 140737488355328 /\ (∀ n ∈ g.2, n.tx.size <= 140737488355328) /\ gs.drop k = g :: gs.drop (k + 1)) := fun k hk => ⟨_, List.getElem?_eq_getElem hk, (hT _ (List.getElem_mem hk)).1, (hT _ (List.getElem_mem hk)).2.1, (hT _ (List.getElem_mem hk)).2.2, List.drop_eq_getElem_cons hk⟩
 have HN : Hid (¬ gs.length = 0) := h0
 clear h0 hp hT h2
 go_enter Tryz.func35, Tryz.ntmps35
 go_wp2_with fail
 go_loopw [3, 17] (fun v t wr => ∃ k : Nat, k <= gs.length /\ t = .int .i64 k /\ v = .int .i64 (ndS gs k) /\ Hid (ndS gs k <= 2048) /\ Hid (wrR gs = zgV gs.length (ndS gs k) (gs.drop k)) /\ Hid (Below w.heap.size w wr)) (fun _ t _ => gs.length - (intOf t).toNat)
 case atStart => exact ⟨0, by omega, by go_num, by go_num, Nat.zero_le _, HE, Below.refl _ _⟩
 case round =>
  obtain ⟨k, hk, rfl, rfl, HQ, HX, HW⟩ := hrel
  clear HE
  by_cases hlt : k < gs.length
  ·obtain ⟨g, hg, s1, s2, s3, hd⟩ := HG.out k hlt
   obtain ⟨b, o, A2, c2, rfl, lb, x0, x1, r2⟩ := HP.out k g hg
   have x0' := (HW.out.cell (p := ⟨b, o + k * 2, none⟩) lb).trans x0
   have x1' := (HW.out.cell (p := ⟨b, o + k * 2 + 1, none⟩) lb).trans x1
   clear x0 x1
   have z0 : (0 : Int) <= (k : Int) := by omega
   have z1 : (k : Int) < (gs.length : Int) := by omega
   have HR : Hid (RB (wr.alloc (.cells #[.string g.1, .slice A2 g.2.length c2] 73)) wr.heap.size g.1 (.slice A2 g.2.length c2)) := ⟨heap_alloc_new wr _⟩
   have HW1 : Hid (Below w.heap.size w (wr.alloc (.cells #[.string g.1, .slice A2 g.2.length c2] 73))) := HW.out.alloc HW.out.size _
   have HNm : Hid (∀ W, Calls Tryz.prog 58 #[.string g.1] W fun e W' => e = .returned (.bool (T.nmB g.1)) /\ Below W.heap.size W W') := fun W => zdF g.1 s1 W
   have HCk : Hid (∀ W, Below w.heap.size w W -> Calls Tryz.prog 25 #[.slice A2 g.2.length c2] W fun e w' => e = .returned (.tuple #[.int .i64 (T.ck g.2).1, .int .i64 (T.ck g.2).2]) /\ Below W.heap.size W w') := fun W hW => T.za5 g.2 A2 c2 s2 s3 W (r2.below hW (Nat.le_refl _))
   have hgk := hg
   have HSz : Hid (g.2.length <= 140737488355328) := s2
   clear hg r2 s1 s2 s3 HW
   by_cases hs0 : g.1.size = 0
   ·have te : (g.1.toList == []) = true := by
     have e := T.zeL hs0
     rw [List.isEmpty_iff] at e
     rw [e]; rfl
    have te2 := T.zeL hs0
    by_cases hl1 : gs.length = 1
    ·have tl : ((gs.length : Int) == 1) = true := beq_iff_eq.2 (by omega)
     have HWy := HW1
     have HBy := HW1
     have HRy := HR
     have HU : Hid (wrR gs = if (T.ck g.2).2 ≠ 0 then (T.ck g.2).2 else if 2048 < ndS gs k + g.2.length then 2 else zgV gs.length (ndS gs k + g.2.length) (gs.drop (k + 1))) := by show wrR gs = _; rw [HX.out, hd, zgV, if_neg (by rintro ⟨q, _⟩; exact q ⟨hs0, hl1⟩)]
     have HV : Hid ((T.ck g.2).2 = 0 -> wrR gs = if 2048 < ndS gs k + g.2.length then 2 else zgV gs.length (ndS gs k + g.2.length) (gs.drop (k + 1))) := fun h => by rw [HU.out, if_neg (by rw [h]; simp)]
     clear hl1 hs0
     -- the body is checked
     by_cases hc : (T.ck g.2).2 = 0
     ·have HV2 := hO (HV.out hc)
      have tc : ((T.ck g.2).2 != 0) = false := by rw [hc]; rfl
      have hg3 : g.2.length <= 2048 := zor hc
      have hq := HQ.out
      generalize hcc : (T.ck g.2).2 = cc at *
      clear hcc
      by_cases hn : 2048 < ndS gs k + g.2.length
      ·have HF : Hid (wrR gs = 2) := by show wrR gs = 2; rw [HV2.out, if_pos hn]
       have tn : (2048 : Int) < (ndS gs k : Int) + (g.2.length : Int) := by omega
       clear HV HV2 HU HX HG HP HQ hn
       have y0 := HRy.out.c0
       have y1 := HRy.out.c1
       go_wp2_with fail
       refine (HCk.out _ HBy.out).mono ?_
       rintro e w3 ⟨rfl, b3⟩
       have HW3 : Hid (Below w.heap.size w w3) := HWy.out.trans (b3.mono HWy.out.size)
       have x1 := (HRy.out.later b3).c1
       clear HCk b3 HBy HRy
       go_wp2_with fail
       go_ret
       exact ⟨by rw [HF.out]; rfl, HW3.out⟩
      ·have HF : Hid (wrR gs = zgV gs.length (ndS gs (k + 1)) (gs.drop (k + 1))) := by show wrR gs = _; rw [HV2.out, if_neg hn, zcV hgk]
       have tn : ¬ (2048 : Int) < (ndS gs k : Int) + (g.2.length : Int) := by omega
       have HQ2 : Hid (ndS gs (k + 1) <= 2048) := by show ndS gs (k + 1) <= 2048; rw [zcV hgk]; omega
       have HS : Hid ((ndS gs (k + 1) : Int) = (ndS gs k : Int) + (g.2.length : Int)) := by show (ndS gs (k + 1) : Int) = _; rw [zcV hgk]; omega
       clear HV HV2 HU HX HP HQ hn hgk
       have y0 := HRy.out.c0
       have y1 := HRy.out.c1
       go_wp2_with fail
       refine (HCk.out _ HBy.out).mono ?_
       rintro e w3 ⟨rfl, b3⟩
       have HW3 : Hid (Below w.heap.size w w3) := HWy.out.trans (b3.mono HWy.out.size)
       have x1 := (HRy.out.later b3).c1
       clear HCk b3 HBy HRy
       go_wp2_with fail
       go_roundw
       case rel => exact ⟨k + 1, by omega, by go_num, by rw [HS.out], HQ2, HF, HW3⟩
       case measure => simp [intOf]; omega
     ·have tc : ((T.ck g.2).2 != 0) = true := by rw [bne, bF hc]; rfl
      have HF : Hid (wrR gs = (T.ck g.2).2) := by show wrR gs = _; rw [HU.out, if_pos hc]
      clear HV HU HX HG HP HQ hc
      generalize hcc : (T.ck g.2).2 = cc at *
      clear hcc
      have y0 := HRy.out.c0
      have y1 := HRy.out.c1
      go_wp2_with fail
      refine (HCk.out _ HBy.out).mono ?_
      rintro e w3 ⟨rfl, b3⟩
      have HW3 : Hid (Below w.heap.size w w3) := HWy.out.trans (b3.mono HWy.out.size)
      clear HCk b3 HBy HRy
      go_wp2_with fail
      go_ret
      exact ⟨by rw [HF.out]; rfl, HW3.out⟩
    ·have tl : ((gs.length : Int) == 1) = false := bF (by omega)
     have hnb : T.nmB g.1 = false := T.zjM (fun h => by have := h.1; omega)
     have HF : Hid (wrR gs = 6) := by show wrR gs = 6; rw [HX.out, hd, zgV, if_pos ⟨fun q => hl1 q.2, hnb⟩]
     rw [hnb] at HNm
     clear HX HG HP HQ hl1 hs0 hd hgk HCk
     go_wp2_with fail
     refine (HNm.out _).mono ?_
     rintro e w3 ⟨rfl, b3⟩
     have HW3 : Hid (Below w.heap.size w w3) := HW1.out.trans (b3.mono HW1.out.size)
     clear HNm b3 HR HW1
     go_wp2_with fail
     go_ret
     exact ⟨by rw [HF.out]; rfl, HW3.out⟩
   ·have te : (g.1.toList == []) = false := by
     have e := T.zel hs0
     cases hl : g.1.toList with
     | nil => rw [hl] at e; cases e
     | cons x r => rfl
    have te2 := T.zel hs0
    cases hnb : T.nmB g.1 with
    | false =>
     have HF : Hid (wrR gs = 6) := by show wrR gs = 6; rw [HX.out, hd, zgV, if_pos ⟨fun q => hs0 q.1, hnb⟩]
     rw [hnb] at HNm
     clear HX HG HP HQ hs0 hd hgk HCk hnb
     go_wp2_with fail
     refine (HNm.out _).mono ?_
     rintro e w3 ⟨rfl, b3⟩
     have HW3 : Hid (Below w.heap.size w w3) := HW1.out.trans (b3.mono HW1.out.size)
     clear HNm b3 HR HW1
     go_wp2_with fail
     go_ret
     exact ⟨by rw [HF.out]; rfl, HW3.out⟩
    | true =>
     rw [hnb] at HNm
     go_wp2_with fail
     refine (HNm.out _).mono ?_
     rintro e w2 ⟨rfl, b2⟩
     have HWy : Hid (Below w.heap.size w w2) := HW1.out.trans (b2.mono HW1.out.size)
     have HBy := HWy
     have HRy : Hid (RB w2 wr.heap.size g.1 (.slice A2 g.2.length c2)) := HR.out.later b2
     clear HNm b2 HR HW1
     have HU : Hid (wrR gs = if (T.ck g.2).2 ≠ 0 then (T.ck g.2).2 else if 2048 < ndS gs k + g.2.length then 2 else zgV gs.length (ndS gs k + g.2.length) (gs.drop (k + 1))) := by show wrR gs = _; rw [HX.out, hd, zgV, if_neg (by rintro ⟨_, q⟩; rw [hnb] at q; cases q)]
     have HV : Hid ((T.ck g.2).2 = 0 -> wrR gs = if 2048 < ndS gs k + g.2.length then 2 else zgV gs.length (ndS gs k + g.2.length) (gs.drop (k + 1))) := fun h => by rw [HU.out, if_neg (by rw [h]; simp)]
     -- the body is checked
     by_cases hc : (T.ck g.2).2 = 0
     ·have HV2 := hO (HV.out hc)
      have tc : ((T.ck g.2).2 != 0) = false := by rw [hc]; rfl
      have hg3 : g.2.length <= 2048 := zor hc
      have hq := HQ.out
      generalize hcc : (T.ck g.2).2 = cc at *
      clear hcc
      by_cases hn : 2048 < ndS gs k + g.2.length
      ·have HF : Hid (wrR gs = 2) := by show wrR gs = 2; rw [HV2.out, if_pos hn]
       have tn : (2048 : Int) < (ndS gs k : Int) + (g.2.length : Int) := by omega
       clear HV HV2 HU HX HG HP HQ hn
       have y1 := HRy.out.c1
       go_wp2_with fail
       refine (HCk.out _ HBy.out).mono ?_
       rintro e w3 ⟨rfl, b3⟩
       have HW3 : Hid (Below w.heap.size w w3) := HWy.out.trans (b3.mono HWy.out.size)
       have x1 := (HRy.out.later b3).c1
       clear HCk b3 HBy HRy
       go_wp2_with fail
       go_ret
       exact ⟨by rw [HF.out]; rfl, HW3.out⟩
      ·have HF : Hid (wrR gs = zgV gs.length (ndS gs (k + 1)) (gs.drop (k + 1))) := by show wrR gs = _; rw [HV2.out, if_neg hn, zcV hgk]
       have tn : ¬ (2048 : Int) < (ndS gs k : Int) + (g.2.length : Int) := by omega
       have HQ2 : Hid (ndS gs (k + 1) <= 2048) := by show ndS gs (k + 1) <= 2048; rw [zcV hgk]; omega
       have HS : Hid ((ndS gs (k + 1) : Int) = (ndS gs k : Int) + (g.2.length : Int)) := by show (ndS gs (k + 1) : Int) = _; rw [zcV hgk]; omega
       clear HV HV2 HU HX HP HQ hn hgk
       have y1 := HRy.out.c1
       go_wp2_with fail
       refine (HCk.out _ HBy.out).mono ?_
       rintro e w3 ⟨rfl, b3⟩
       have HW3 : Hid (Below w.heap.size w w3) := HWy.out.trans (b3.mono HWy.out.size)
       have x1 := (HRy.out.later b3).c1
       clear HCk b3 HBy HRy
       go_wp2_with fail
       go_roundw
       case rel => exact ⟨k + 1, by omega, by go_num, by rw [HS.out], HQ2, HF, HW3⟩
       case measure => simp [intOf]; omega
     ·have tc : ((T.ck g.2).2 != 0) = true := by rw [bne, bF hc]; rfl
      have HF : Hid (wrR gs = (T.ck g.2).2) := by show wrR gs = _; rw [HU.out, if_pos hc]
      clear HV HU HX HG HP HQ hc
      generalize hcc : (T.ck g.2).2 = cc at *
      clear hcc
      have y1 := HRy.out.c1
      go_wp2_with fail
      refine (HCk.out _ HBy.out).mono ?_
      rintro e w3 ⟨rfl, b3⟩
      have HW3 : Hid (Below w.heap.size w w3) := HWy.out.trans (b3.mono HWy.out.size)
      clear HCk b3 HBy HRy
      go_wp2_with fail
      go_ret
      exact ⟨by rw [HF.out]; rfl, HW3.out⟩
  ·obtain rfl : k = gs.length := by omega
   have HF : Hid (wrR gs = 0) := by show wrR gs = 0; rw [HX.out, List.drop_length]; rfl
   clear HG HP HX
   go_wp2_with fail
   go_ret
   exact ⟨by rw [HF.out]; rfl, HW.out⟩
theorem zrj {len : Nat} : ∀ (gs : List (ByteArray × List Nd)) (m : Nat), m <= 2048 -> zgV len m gs = 0 -> (∀ g ∈ gs, (T.ck g.2).2 = 0 /\ (T.nmB g.1 = true ∨ (g.1.size = 0 /\ len = 1))) /\ m + (gs.map fun g => g.2.length).sum <= 2048 := by
 intro gs
 induction gs with
 | nil => intro m hm _; exact ⟨(fun g hg => by cases hg), by simpa using hm⟩
 | cons g r ih =>
  intro m hm h
  rw [zgV] at h
  by_cases q1 : ¬ (g.1.size = 0 /\ len = 1) /\ T.nmB g.1 = false
  ·rw [if_pos q1] at h; cases h
  rw [if_neg q1] at h
  by_cases q2 : (T.ck g.2).2 ≠ 0
  ·rw [if_pos q2] at h; exact absurd h q2
  rw [if_neg q2] at h
  by_cases q3 : 2048 < m + g.2.length
  ·rw [if_pos q3] at h; cases h
  rw [if_neg q3] at h
  obtain ⟨h1, h2⟩ := ih (m + g.2.length) (by omega) h
  refine ⟨fun x hx => ?_, by rw [List.map_cons, List.sum_cons]; omega⟩
  rcases List.mem_cons.1 hx with rfl | hx
  ·refine ⟨by by_cases z : (T.ck x.2).2 = 0; exact z; exact absurd z q2, ?_⟩
   cases hb : T.nmB x.1 with
   | true => exact .inl rfl
   | false =>
    by_cases z : x.1.size = 0 /\ len = 1
    ·exact .inr z
    ·exact absurd ⟨z, hb⟩ q1
  ·exact h1 x hx
theorem wr_ok {gs : List (ByteArray × List Nd)} (h : wrR gs = 0) : 1 <= gs.length /\ gs.length <= 200 /\ (∀ g ∈ gs, (T.ck g.2).2 = 0 /\ (T.nmB g.1 = true ∨ (g.1.size = 0 /\ gs.length = 1))) /\ (gs.map fun g => g.2.length).sum <= 2048 := by
 unfold wrR at h
 by_cases q1 : gs.length = 0
 ·rw [if_pos q1] at h; cases h
 rw [if_neg q1] at h
 by_cases q2 : 200 < gs.length
 ·rw [if_pos q2] at h; cases h
 rw [if_neg q2] at h
 obtain ⟨h1, h2⟩ := zrj gs 0 (by omega) h
 exact ⟨by omega, by omega, h1, by omega⟩
theorem zrk {L : List Nd} (hr : T.Rt L) : (itT (shI L)).length <= 10000 * L.length := by
 have h := zoy hr.each L.length (Nat.le_refl _)
 unfold shI
 cases hs : shK L L.length with
 | nil => exact Nat.zero_le _
 | cons x st =>
  rw [hs, zck] at h
  show (itT x.2).length <= _
  omega
theorem zf3 (g : ByteArray × List Nd) : itT (lnI g) = (if g.1.size = 0 then [] else g.1.data.toList ++ [32, 60, 45, 32]) ++ itT (shI g.2) := by
 unfold lnI
 rw [zaO]
 by_cases h : g.1.size = 0
 ·rw [if_pos h, if_pos h]; rfl
 ·rw [if_neg h, if_neg h]
  rfl
theorem nm_len {s : ByteArray} (h : T.nmB s = true) : s.size <= 32 := (zbs (znF h)).2
theorem gr_len : ∀ (gs : List (ByteArray × List Nd)), (∀ g ∈ gs, (T.ck g.2).2 = 0 /\ g.1.size <= 32) -> (grT gs).length <= 10000 * (gs.map fun g => g.2.length).sum + 40 * gs.length := by
 intro gs
 induction gs with
 | nil => intro _; exact Nat.zero_le _
 | cons g r ih =>
  intro h
  have h1 := ih (fun x hx => h x (List.mem_cons_of_mem _ hx))
  obtain ⟨h2, h3⟩ := h g List.mem_cons_self
  have h4 := zrk (T.zjT h2)
  have e : grT (g :: r) = (itT (lnI g) ++ [10]) ++ grT r := rfl
  rw [e, List.length_append, List.length_append, zf3, List.length_append, List.map_cons, List.sum_cons]
  have h5 : (if g.1.size = 0 then [] else g.1.data.toList ++ [32, 60, 45, 32] : List UInt8).length <= 36 := by
   split
   ·exact Nat.zero_le _
   ·rw [List.length_append, dlen]; show _ + 4 <= _; omega
  have e3 : (g :: r).length = r.length + 1 := rfl
  show _ + 1 + _ <= _
  omega
theorem zl5 (a b : List (ByteArray × List Nd)) : grT (a ++ b) = grT a ++ grT b := List.flatMap_append
theorem ziN {gs : List (ByteArray × List Nd)} {k : Nat} {g : ByteArray × List Nd} (h : gs[k]? = some g) : grT (gs.take (k + 1)) = grT (gs.take k) ++ (itT (lnI g) ++ [10]) := by
 rw [List.take_add_one, h, zl5]
 show _ ++ ((itT (lnI g) ++ [10]) ++ []) = _
 rw [List.append_nil]
theorem znR (gs : List (ByteArray × List Nd)) (k : Nat) : (grT (gs.take k)).length <= (grT gs).length := by
 have h := zl5 (gs.take k) (gs.drop k)
 rw [List.take_append_drop] at h
 rw [h, List.length_append]
 omega
def grR (gs : List (ByteArray × List Nd)) : ByteArray × Int := if wrR gs = 0 then lnR (grT gs) else (⟨#[]⟩, wrR gs)
theorem zbX (gs : List (ByteArray × List Nd)) (A : Option Addr) (c : Nat) (hl : gs.length <= 140737488355328) (hT : ∀ g ∈ gs, g.1.size <= 140737488355328 /\ g.2.length <= 140737488355328 /\ ∀ n ∈ g.2, n.tx.size <= 140737488355328) (hw : ∀ g ∈ gs, ∀ n ∈ g.2, NdW n) (w : World) (hp : GrD w A gs) :
  Calls Tryz.prog 16 #[.agg #[.slice A gs.length c]] w fun e w' => e = .returned (.tuple #[.string (grR gs).1, .int .i64 (grR gs).2]) /\ Below w.heap.size w w' := by
 have HX : Hid (GX (w.alloc (.cells #[.slice A gs.length c] 33)) w.heap.size (.slice A gs.length c)) := GX.mk (heap_alloc_new w _)
 have HB0 : Hid (Below w.heap.size w (w.alloc (.cells #[.slice A gs.length c] 33))) := zaa _ _
 have HC : Hid (∀ _ : Unit, Calls Tryz.prog 35 #[.slice A gs.length c] (w.alloc (.cells #[.slice A gs.length c] 33)) fun e w' => e = .returned (.int .i64 (wrR gs)) /\ Below (w.alloc (.cells #[.slice A gs.length c] 33)).heap.size (w.alloc (.cells #[.slice A gs.length c] 33)) w') := fun _ => zeZ gs A c hl hT _ (hp.later (zaa _ _))
 by_cases hc : wrR gs = 0
 ·have t0 : (wrR gs != 0) = false := by rw [hc]; rfl
  have HE : Hid (grR gs = lnR (grT gs)) := by show grR gs = _; unfold grR; rw [if_pos hc]
  obtain ⟨g1, g2, g3, g4⟩ := wr_ok hc
  have hmf : ∀ (fn : Fn) (first cap : Array Value) (w : World), (Instr.makeFunc fn first cap).run Tryz.prog w = .ok (.func fn first cap) w := fun _ _ _ _ => rfl
  have hsz : ∀ g ∈ gs, (T.ck g.2).2 = 0 /\ g.1.size <= 32 := fun g hg => by
   obtain ⟨q1, q2⟩ := g3 g hg
   refine ⟨q1, ?_⟩
   rcases q2 with q | q
   ·exact nm_len q
   ·omega
  have hgl := gr_len gs hsz
  have HLe : Hid ((grT gs).length <= 20490000) := by show (grT gs).length <= 20490000; omega
  have HNe := (show Hid (grT gs ≠ []) from by
   show grT gs ≠ []
   cases gs with
   | nil => simp at g1
   | cons g r =>
    intro e
    have : ((itT (lnI g) ++ [10]) ++ grT r : List UInt8) = [] := e
    simp at this)
  have HP : Hid (GrD w A gs) := hp
  have HG : Hid (∀ k, k < gs.length -> ∃ g, gs[k]? = some g /\ T.Rt g.2 /\ (∀ n ∈ g.2, NdW n) /\ g.1.size <= 32) := fun k hk => ⟨_, List.getElem?_eq_getElem hk, T.zjT (hsz _ (List.getElem_mem hk)).1, hw _ (List.getElem_mem hk), (hsz _ (List.getElem_mem hk)).2⟩
  have HTk : Hid (gs.take gs.length = gs) := List.take_length
  clear hc hp hT hw hsz hgl g1 g3 g4
  generalize wrR gs = wv at *
  have y0 := HX.out.cl
  go_enter Tryz.func16, Tryz.ntmps16
  go_wp2_with fail
  refine (HC.out ()).mono ?_
  rintro e w1 ⟨rfl, b1⟩
  have HB1 : Hid (Below w.heap.size w w1) := HB0.out.trans (b1.mono HB0.out.size)
  have HX1 : Hid (GX w1 w.heap.size (.slice A gs.length c)) := HX.out.below b1
  have hs1 := HB1.out.size
  have hx1 := HX1.out.lt
  have HF : Hid (Lib.IsBuilder 59 5 w1.heap.size w1.heap.size (Lib.byteCells []) (w1.alloc (.cells #[.pointer none, .slice none 0 0] 59))) := Lib.fresh_isBuilder 59 5 w1
  have HX2 : Hid (GX (w1.alloc (.cells #[.pointer none, .slice none 0 0] 59)) w.heap.size (.slice A gs.length c)) := HX1.out.below (zaa _ _)
  have HD : Hid (GrD w A gs /\ Below w.heap.size w (w1.alloc (.cells #[.pointer none, .slice none 0 0] 59))) := ⟨HP.out, HB1.out.alloc hs1 _⟩
  clear b1 HC HB0 HX HX1 HP y0
  have y1 := HX2.out.cl
  go_wp2_with fail
  generalize hpb : w1.heap.size = pb at *
  generalize w1.alloc (.cells #[.pointer none, .slice none 0 0] 59) = w2 at *
  have H0 : Hid (Pg pb w2 w2 (grT (gs.take 0))) := Pg.start HF.out
  go_loopw [17] (fun t wr => ∃ k : Nat, k <= gs.length /\ t = .int .i64 k /\ Hid (Pg pb w2 wr (grT (gs.take k)))) (fun t _ => gs.length - (intOf t).toNat)
  case atStart => exact ⟨0, by omega, by go_num, H0⟩
  case round =>
   obtain ⟨k, hk, rfl, HW⟩ := hrel
   clear H0 HF y1
   by_cases hlt : k < gs.length
   ·obtain ⟨g, hg, hrt, hwd, hn32⟩ := HG.out k hlt
    obtain ⟨b, o, A2, c2, rfl, lb, x0, x1, r2⟩ := HD.out.1 k g hg
    obtain ⟨gp, op, rfl, lp, nd⟩ := r2 (by rintro e; have := zgM hrt; rw [e] at this; simp at this)
    have lgp : gp < pb := by omega
    have key : ∀ b, b < w.heap.size -> wr.heap[b]? = w.heap[b]? := fun b hb => (HW.out.bl.block b (by omega)).trans (HD.out.2.block b hb)
    have x0' : wr.cell? ⟨b, o + k * 2, none⟩ = some (.string g.1) := (World.cell?_of_block (a := ⟨b, o + k * 2, none⟩) (key b lb)).trans x0
    have x1' : wr.cell? ⟨b, o + k * 2 + 1, none⟩ = some (.slice (some ⟨gp, op, none⟩) g.2.length c2) := (World.cell?_of_block (a := ⟨b, o + k * 2 + 1, none⟩) (key b lb)).trans x1
    have HNd : Hid (T.NdL w2 gp op g.2) := nd.same (HD.out.2.block gp lp)
    have HRt : Hid (T.Rt g.2) := hrt
    have HWd : Hid (∀ n ∈ g.2, NdW n) := hwd
    have hle := znR gs (k + 1)
    rw [ziN hg, List.length_append, List.length_append, zf3, List.length_append] at hle
    have hle2 := HLe.out
    have HGs : Hid (grT (gs.take (k + 1)) = grT (gs.take k) ++ (itT (lnI g) ++ [10])) := ziN hg
    have z0 : (0 : Int) <= (k : Int) := by omega
    have z1 : (k : Int) < (gs.length : Int) := by omega
    have hwr := zhx HW.out.i
    have HW3 : Hid (Pg pb w2 (wr.alloc (.cells #[.string g.1, .slice (some ⟨gp, op, none⟩) g.2.length c2] 73)) (grT (gs.take k))) := HW.out.later (zaa _ _)
    have HBx : Hid (Fx (wr.alloc (.cells #[.string g.1, .slice (some ⟨gp, op, none⟩) g.2.length c2] 73)) pb wr.heap.size #[.string g.1, .slice (some ⟨gp, op, none⟩) g.2.length c2] 73) := ⟨⟨_, heap_alloc_new wr _⟩, by omega, by decide⟩
    clear x0 x1 key nd hg hrt hwd HG HW r2
    by_cases hs0 : g.1.size = 0
    ·have te : (g.1.toList == []) = true := by
      have e := T.zeL hs0
      rw [List.isEmpty_iff] at e
      rw [e]; rfl
     have te2 := T.zeL hs0
     have HLn : Hid (itT (lnI g) = itT (shI g.2)) := by show itT (lnI g) = _; rw [zf3, if_pos hs0]; rfl
     rw [if_pos hs0] at hle
     have HLl : Hid ((grT (gs.take k)).length + ((itT (shI g.2)).length + 1) <= 20490000) := by show (grT (gs.take k)).length + _ <= _; simp only [List.length_nil, List.length_singleton] at hle; omega
     have HPq := HW3
     clear hle hle2 hs0 HBx
     have HTe : Hid (∀ _ : Unit, Calls Tryz.prog 26 #[.slice (some ⟨gp, op, none⟩) g.2.length c2, zf0 pb] (wr.alloc (.cells #[.string g.1, .slice (some ⟨gp, op, none⟩) g.2.length c2] 73)) fun e w' => (∃ tb, e = .returned (.pointer (some ⟨tb, 0, none⟩)) /\ Tl w' pb tb g.2 gp op c2) /\ Below (wr.alloc (.cells #[.string g.1, .slice (some ⟨gp, op, none⟩) g.2.length c2] 73)).heap.size (wr.alloc (.cells #[.string g.1, .slice (some ⟨gp, op, none⟩) g.2.length c2] 73)) w') := fun _ => zcw g.2 pb gp op c2 (by have := HRt.out.len; omega) HRt.out.each _ (HNd.out.same (HPq.out.bl.block gp lgp)) lgp (zhx HPq.out.i)
     go_wp2_with fail
     refine (HTe.out ()).mono ?_
     rintro e w5 ⟨⟨tb, rfl, ht⟩, b5⟩
     have HP5 : Hid (Pg pb w2 w5 (grT (gs.take k))) := HPq.out.later b5
     have HPa : Hid (∀ _ : Unit, Calls Tryz.prog 28 #[.pointer (some ⟨tb, 0, none⟩)] w5 fun e W' => e = .returned (.tuple #[]) /\ Pg pb w5 W' ((grT (gs.take k)) ++ itT (shI g.2))) := fun _ => zbU HRt.out HWd.out w5 _ ht HP5.out.i (by have := HLl.out; omega)
     clear ht b5 HTe HPq
     go_wp2_with fail
     refine (HPa.out ()).mono ?_
     rintro e w6 ⟨rfl, p6⟩
     have HP6 : Hid (Pg pb w2 w6 ((grT (gs.take k)) ++ itT (shI g.2))) := HP5.out.trans p6
     clear p6 HPa HP5
     go_wp2_with fail
     refine (zdz ⟨#[10]⟩ HP6.out.i (by rw [List.length_append]; have := HLl.out; show _ + 1 <= _; omega)).mono ?_
     rintro e w7 ⟨rfl, p7⟩
     have HP7 := (show Hid (Pg pb w2 w7 (grT (gs.take (k + 1)))) from by
      show Pg pb w2 w7 _
      rw [HGs.out]
      have := HP6.out.trans p7
      rw [HLn.out, <- List.append_assoc]
      exact this)
     clear p7 HP6
     go_wp2_with fail
     go_roundw
     case rel => exact ⟨k + 1, by omega, by go_num, HP7⟩
     case measure => simp [intOf]; omega
    ·have te : (g.1.toList == []) = false := by
      have e := T.zel hs0
      cases hl : g.1.toList with
      | nil => rw [hl] at e; cases e
      | cons x r => rfl
     have te2 := T.zel hs0
     have HLn : Hid (itT (lnI g) = (g.1.data.toList ++ [32, 60, 45, 32]) ++ itT (shI g.2)) := by show itT (lnI g) = _; rw [zf3, if_neg hs0]
     rw [if_neg hs0, List.length_append] at hle
     have HLl : Hid ((grT (gs.take k)).length + ((g.1.data.toList.length + 4) + ((itT (shI g.2)).length + 1)) <= 20490000) := by show (grT (gs.take k)).length + _ <= _; simp only [List.length_singleton] at hle; have e4 : ([32, 60, 45, 32] : List UInt8).length = 4 := rfl; omega
     clear hle hle2 hs0
     have HTw : Hid (∀ _ : Unit, Calls Tryz.prog 27 #[.pointer (some ⟨pb, 0, none⟩), .slice (some ⟨wr.heap.size + 1, 0, none⟩) 2 2] ((wr.alloc (.cells #[.string g.1, .slice (some ⟨gp, op, none⟩) g.2.length c2] 73)).alloc (.cells #[.string g.1, .string ⟨#[32, 60, 45, 32]⟩] 9)) fun e W' => e = .returned (.tuple #[]) /\ Pg pb (wr.alloc (.cells #[.string g.1, .slice (some ⟨gp, op, none⟩) g.2.length c2] 73)) W' (grT (gs.take k) ++ (g.1.data.toList ++ [32, 60, 45, 32]))) := fun _ => by
      have h := znJ g.1 ⟨#[32, 60, 45, 32]⟩ HW3.out.i (by
       have := HLl.out
       rw [List.length_append]
       have e4 : (⟨#[32, 60, 45, 32]⟩ : ByteArray).data.toList.length = 4 := rfl
       omega)
      rw [World.size_alloc] at h
      exact h
     go_wp2_with fail
     refine (HTw.out ()).mono ?_
     rintro e w4 ⟨rfl, p4⟩
     have HPq : Hid (Pg pb w2 w4 (grT (gs.take k) ++ (g.1.data.toList ++ [32, 60, 45, 32]))) := HW3.out.trans p4
     have d1 : w4.cell? ⟨wr.heap.size, 1, none⟩ = some (.slice (some ⟨gp, op, none⟩) g.2.length c2) := (HBx.out.keep p4.k).cell 1
     clear p4 HW3 HBx HTw
     have HTe : Hid (∀ _ : Unit, Calls Tryz.prog 26 #[.slice (some ⟨gp, op, none⟩) g.2.length c2, zf0 pb] w4 fun e w' => (∃ tb, e = .returned (.pointer (some ⟨tb, 0, none⟩)) /\ Tl w' pb tb g.2 gp op c2) /\ Below w4.heap.size w4 w') := fun _ => zcw g.2 pb gp op c2 (by have := HRt.out.len; omega) HRt.out.each _ (HNd.out.same (HPq.out.bl.block gp lgp)) lgp (zhx HPq.out.i)
     go_wp2_with fail
     refine (HTe.out ()).mono ?_
     rintro e w5 ⟨⟨tb, rfl, ht⟩, b5⟩
     have HP5 : Hid (Pg pb w2 w5 (grT (gs.take k) ++ (g.1.data.toList ++ [32, 60, 45, 32]))) := HPq.out.later b5
     have HPa : Hid (∀ _ : Unit, Calls Tryz.prog 28 #[.pointer (some ⟨tb, 0, none⟩)] w5 fun e W' => e = .returned (.tuple #[]) /\ Pg pb w5 W' ((grT (gs.take k) ++ (g.1.data.toList ++ [32, 60, 45, 32])) ++ itT (shI g.2))) := fun _ => zbU HRt.out HWd.out w5 _ ht HP5.out.i (by rw [List.length_append, List.length_append]; have := HLl.out; show _ + (_ + 4) <= _; omega)
     clear ht b5 HTe HPq
     go_wp2_with fail
     refine (HPa.out ()).mono ?_
     rintro e w6 ⟨rfl, p6⟩
     have HP6 : Hid (Pg pb w2 w6 ((grT (gs.take k) ++ (g.1.data.toList ++ [32, 60, 45, 32])) ++ itT (shI g.2))) := HP5.out.trans p6
     clear p6 HPa HP5
     go_wp2_with fail
     refine (zdz ⟨#[10]⟩ HP6.out.i (by rw [List.length_append]; rw [List.length_append, List.length_append]; have := HLl.out; show _ + (_ + 4) + _ + 1 <= _; omega)).mono ?_
     rintro e w7 ⟨rfl, p7⟩
     have HP7 := (show Hid (Pg pb w2 w7 (grT (gs.take (k + 1)))) from by
      show Pg pb w2 w7 _
      rw [HGs.out]
      have := HP6.out.trans p7
      rw [HLn.out, <- List.append_assoc, <- List.append_assoc]
      exact this)
     clear p7 HP6
     go_wp2_with fail
     go_roundw
     case rel => exact ⟨k + 1, by omega, by go_num, HP7⟩
     case measure => simp [intOf]; omega
   ·obtain rfl : k = gs.length := by omega
    have HWh : Hid (∀ _ : Unit, Calls Tryz.prog 29 #[.pointer (some ⟨pb, 0, none⟩)] wr fun e w' => e = .returned (.tuple #[.string (lnR (grT gs)).1, .int .i64 (lnR (grT gs)).2]) /\ Below pb wr w') := fun _ => by
     have h := HW.out
     rw [HTk.out] at h
     exact zgN pb _ wr h.i HNe.out (by have := HLe.out; omega)
    have hle : w.heap.size <= pb := by omega
    clear HG
    go_wp2_with fail
    refine (HWh.out ()).mono ?_
    rintro e w4 ⟨rfl, b4⟩
    have HB4 : Hid (Below w.heap.size w w4) := (HD.out.2.trans (HW.out.bl.mono hle)).trans (b4.mono hle)
    clear b4 HWh HW HD
    go_wp2_with fail
    go_ret2
    exact ⟨by rw [HE.out]; rfl, HB4.out⟩
 ·have t0 : (wrR gs != 0) = true := by rw [bne, bF hc]; rfl
  have HE : Hid (grR gs = (⟨#[]⟩, wrR gs)) := by show grR gs = _; unfold grR; rw [if_neg hc]
  clear hp hT hw hc
  generalize wrR gs = wv at *
  have y0 := HX.out.cl
  go_enter Tryz.func16, Tryz.ntmps16
  go_wp2_with fail
  refine (HC.out ()).mono ?_
  rintro e w1 ⟨rfl, b1⟩
  have HB1 : Hid (Below w.heap.size w w1) := HB0.out.trans (b1.mono HB0.out.size)
  clear b1 HC HX HB0 y0
  go_wp2_with fail
  go_ret2
  exact ⟨by rw [HE.out]; rfl, HB1.out⟩
end Go.Proofs.YtnpifgcgjgddoaaGreatDoor.N
