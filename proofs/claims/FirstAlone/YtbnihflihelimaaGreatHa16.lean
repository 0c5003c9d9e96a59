/- DERIVED. Plain mathematics and walks, laid together (16). -/
import Derived.Deep.RegionHeld3
import Derived.Test.YtbnihflihelimaaGreatHa15
namespace Go.Proofs.YtbnihflihelimaaGreat.N
open Go.RowKit Go.Maps
open Go.Proofs.YtbnihflihelimaaGreat.T

open U (below_grown)
theorem FoS.ret1 {w W : World} (hb : Below w.heap.size w W) (hz : FX W (w.heap.size + 1) f0) (o : Obj) : FX (((((((W.setCell ⟨w.heap.size + 1, 0, none⟩ (.int .u64 0)).setCell ⟨w.heap.size + 1, 1, none⟩ (.int .u64 0)).setCell ⟨w.heap.size + 1, 2, none⟩ (.int .u64 0)).setCell ⟨w.heap.size + 1, 3, none⟩ (.int .u64 0)).setCell ⟨w.heap.size + 1, 4, none⟩ (.bool false)).setCell ⟨w.heap.size + 1, 5, none⟩ (.bool false)).alloc o) (w.heap.size + 1) f0 ∧ Below w.heap.size w (((((((W.setCell ⟨w.heap.size + 1, 0, none⟩ (.int .u64 0)).setCell ⟨w.heap.size + 1, 1, none⟩ (.int .u64 0)).setCell ⟨w.heap.size + 1, 2, none⟩ (.int .u64 0)).setCell ⟨w.heap.size + 1, 3, none⟩ (.int .u64 0)).setCell ⟨w.heap.size + 1, 4, none⟩ (.bool false)).setCell ⟨w.heap.size + 1, 5, none⟩ (.bool false)).alloc o) := by
  have h1 := sF_fx hz f0
  have h2 := sF_below (w.heap.size + 1) f0 hb (Nat.le_succ _)
  have z0 : ∀ i, wd f0.st i = 0 := fun i => wd_zero i
  unfold sF at h1 h2
  rw [z0, z0, z0, z0] at h1 h2
  exact ⟨h1.below (below_box _ _), h2.alloc h2.size _⟩
/-- What Rules answers. -/
def RsF (gs : GL) (fs : List Fs) : Prop := ((ckG gs).2 = 0 → ∃ now, KnF gs now ∧ now.length = gs.length ∧ FxR gs now fs) ∧ ((ckG gs).2 ≠ 0 → fs = [])
set_option maxRecDepth 100000 in
set_option maxHeartbeats 16000000 in
theorem fsRules_any (gs : GL) (A : Option Addr) (c : Nat) (w : World) (hp : GI w A gs) (hnw : ∀ g ∈ gs, ∀ n ∈ g.2, NdW n) :
    Calls Tryz.prog 7 #[.agg #[.slice A gs.length c]] w fun e w' => (∃ v fs, e = .returned (.tuple #[v, .int .i64 (ckG gs).2]) ∧ RsF gs fs ∧ w'.ownsRow w.heap.size 36 6 v fs.length (fsc fs)) ∧ Below w.heap.size w w' := by
  obtain ⟨w1, hw1⟩ : ∃ w1, w1 = (w.alloc (.cells #[.slice A gs.length c] 24)) := ⟨_, rfl⟩
  have HE1 := (show Hid ((w.alloc (.cells #[.slice A gs.length c] 24)) = w1) from hw1.symm)
  have HS1 := (show Hid (Below w.heap.size w w1 ∧ GX w1 w.heap.size (.slice A gs.length c) ∧ True) from ⟨by rw [hw1]; exact below_box _ _, by rw [hw1]; exact GX.mk (heap_alloc_new w _), trivial⟩)
  have HP := (show Hid (GI w A gs ∧ ∀ g ∈ gs, ∀ n ∈ g.2, NdW n) from ⟨hp, hnw⟩)
  have HN := (show Hid (∀ _ : Unit, Calls Tryz.prog 21 #[.agg #[.slice A gs.length c]] w1 fun e w' => KoR w1 w' gs e ∧ Below w1.heap.size w1 w') from fun _ => fsKnownOf_any gs A c w1 (hp.later HS1.out.1) hnw)
  have q1 := HS1.out.2.1.cl
  clear hp hnw hw1
  go_enter Tryz.func7, Tryz.ntmps7
  go_wp2_with (rw [HE1.out])
  refine (HN.out ()).mono ?_
  rintro e w2 ⟨hr, b2⟩
  by_cases hz : (ckG gs).2 = 0
  · obtain ⟨mb, Ak, cE, now, vb, vr, ov, fs, rfl, hk, hbd, hfx, hkn, hnl, hok⟩ := hr.2 hz
    have hp := hk.p
    have hfl := hfx.i.l
    rw [hfl] at hp
    obtain ⟨Ar, cr, rfl⟩ := own_sl hp
    have hob := hk.o.o
    rw [hbd.l] at hob
    obtain ⟨Ab, cb, rfl⟩ := own_sl hob
    obtain ⟨w3, hw3⟩ : ∃ w3, w3 = w2.alloc (.cells #[.map (some mb), .slice Ak gs.length cE, .slice Ab gs.length cb, .slice Ar gs.length cr] 56) := ⟨_, rfl⟩
    have HE3 := (show Hid (w2.alloc (.cells #[.map (some mb), .slice Ak gs.length cE, .slice Ab gs.length cb, .slice Ar gs.length cr] 56) = w3) from hw3.symm)
    obtain ⟨kb, hkb⟩ : ∃ kb, kb = w2.heap.size := ⟨_, rfl⟩
    have HKb := (show Hid (w2.heap.size = kb) from hkb.symm)
    have hb3 : Below w2.heap.size w2 w3 := by rw [hw3]; exact below_box _ _
    have HS3 := (show Hid (Below w.heap.size w w3 ∧ GX w3 w.heap.size (.slice A gs.length c) ∧ True ∧ KyX w3 kb (.map (some mb)) (.slice Ak gs.length cE) (.slice Ab gs.length cb) (.slice Ar gs.length cr)) from ⟨HS1.out.1.trans ((b2.trans (hb3.mono b2.size)).mono HS1.out.1.size), HS1.out.2.1.below (b2.trans (hb3.mono b2.size)), trivial, by rw [hw3, hkb]; exact KyX.new w2 _ _ _ _⟩)
    have HKn := (show Hid (KnG gs now w3 mb Ak Ar fs ∧ FxR gs now fs ∧ KnF gs now ∧ now.length = gs.length ∧ OkN gs now) from ⟨⟨hk.m.later hb3, hk.d.later hb3, by
      have hn1 := (ckG_ok.1 hz).n1
      obtain ⟨g9, c9, e9, _⟩ := hp.form (by omega)
      injection e9 with e91 e92 e93
      subst e91
      have h2 := fs_read (T.own_below hp hb3) [] fs rfl
      rw [List.length_nil, Nat.zero_mul] at h2
      exact h2, hfl, hnl⟩, hfx, hkn, hnl, hok⟩)
    have HOw := (show Hid (w3.ownsRow w.heap.size 36 6 (.slice Ar gs.length cr) gs.length (fsc fs) ∧ OB w3 w.heap.size (.slice Ab gs.length cb) ov ∧ BdK gs now w3 gs.length ov) from by
      have h1 := HS1.out.1.size
      have h2 := hk.e1
      exact ⟨T.own_below (T.own_base hp (by omega)) hb3, (hk.o.base (by omega)).later hb3, hbd.later hb3⟩)
    have HZ := (show Hid ((ckG gs).2 = 0) from hz)
    have tz : ((ckG gs).2 != 0) = false := by rw [hz]; rfl
    clear hr hk hbd hfx hkn hnl hok hp hfl hob hw3 hb3 hz HN HE1 HS1 q1 hkb
    have k3 := HS3.out.2.2.2.c3
    generalize hcd : (ckG gs).2 = cd at tz ⊢
    have HCD := (show Hid ((ckG gs).2 = cd) from hcd)
    clear hcd
    go_wp2_with (rw [HE3.out, HKb.out])
    refine bodyPost_ret (v := .tuple #[.slice Ar gs.length cr, .int .i64 0]) (by simp [results, Tryz.results7, go_sem]) rfl ?_
    exact ⟨⟨_, fs, by rw [HZ.out], ⟨fun _ => ⟨now, HKn.out.2.2.1, HKn.out.2.2.2.1, HKn.out.2.1⟩, fun q => absurd HZ.out q⟩, by rw [HKn.out.1.l]; exact HOw.out.1⟩, HS3.out.1⟩
  · have HZ := (show Hid ((ckG gs).2 ≠ 0) from hz)
    obtain rfl := hr.1 hz
    have tz : ((ckG gs).2 != 0) = true := by rw [bne, beq_eq_false_iff_ne.2 hz]; rfl
    have HS3 := (show Hid (Below w.heap.size w (w2.alloc (.cells #[.map none, .slice none 0 0, .slice none 0 0, .slice none 0 0] 56))) from (HS1.out.1.trans (b2.mono HS1.out.1.size)).alloc (HS1.out.1.trans (b2.mono HS1.out.1.size)).size _)
    clear hr hz b2 HN HE1 q1 HP HS1
    generalize hcd : (ckG gs).2 = cd at tz ⊢
    have HCD := (show Hid ((ckG gs).2 = cd) from hcd)
    clear hcd
    go_wp2_with fail
    refine bodyPost_ret (v := .tuple #[.slice none 0 0, .int .i64 cd]) (by simp [results, Tryz.results7, go_sem]) rfl ?_
    exact ⟨⟨_, [], by rw [HCD.out], ⟨fun q => absurd q HZ.out, fun _ => rfl⟩, World.ownsRow_nil _ _ _ _⟩, HS3.out⟩
/-- What Of answers. -/
def OfF (gs : GL) (L : List Nd) (x : Fs) (cd : Int) : Prop := ((ckG gs).2 ≠ 0 → cd = (ckG gs).2 ∧ x = f0) ∧ ((ckG gs).2 = 0 → ∃ now fs, KnF gs now ∧ now.length = gs.length ∧ FxR gs now fs ∧ FoR gs now fs L x cd)
set_option maxRecDepth 100000 in
set_option maxHeartbeats 16000000 in
theorem fsOf_any (gs : GL) (A : Option Addr) (c : Nat) (L : List Nd) (Ap : Option Addr) (cp : Nat) (hL : L.length ≤ 140737488355328) (hT : ∀ n ∈ L, n.tx.size ≤ 140737488355328) (hw : ∀ n ∈ L, NdW n) (w : World) (hp : GI w A gs) (hnw : ∀ g ∈ gs, ∀ n ∈ g.2, NdW n) (hr : RdN w Ap L) :
    Calls Tryz.prog 15 #[.agg #[.slice A gs.length c], .slice Ap L.length cp] w fun e w' => (∃ x cd, e = .returned (.tuple #[fG x, .int .i64 cd]) ∧ OfF gs L x cd) ∧ Below w.heap.size w w' := by
  have HTt := (show Hid (L.length ≤ 140737488355328 ∧ (∀ n ∈ L, n.tx.size ≤ 140737488355328) ∧ (∀ n ∈ L, NdW n) ∧ RdN w Ap L) from ⟨hL, hT, hw, hr⟩)
  clear hL hT hw hr
  obtain ⟨w1, hw1⟩ : ∃ w1, w1 = ((w.alloc (.cells #[.slice A gs.length c] 24)).alloc (.cells #[.int .u64 0, .int .u64 0, .int .u64 0, .int .u64 0, .bool false, .bool false] 36)) := ⟨_, rfl⟩
  have HE1 := (show Hid (((w.alloc (.cells #[.slice A gs.length c] 24)).alloc (.cells #[.int .u64 0, .int .u64 0, .int .u64 0, .int .u64 0, .bool false, .bool false] 36)) = w1) from hw1.symm)
  have HS1 := (show Hid (Below w.heap.size w w1 ∧ GX w1 w.heap.size (.slice A gs.length c) ∧ FX w1 (w.heap.size + 1) f0) from by
    have s1 := World.size_alloc w (.cells #[.slice A gs.length c] 24)
    refine ⟨by rw [hw1]; exact ((Below.refl _ _).alloc (Nat.le_refl _) _).alloc (by omega) _, by rw [hw1]; exact (GX.mk (heap_alloc_new w _)).below (below_box _ _), ?_⟩
    have h := FX.new (w.alloc (.cells #[.slice A gs.length c] 24)) f0
    have z0 : ∀ i, wd f0.st i = 0 := fun i => wd_zero i
    rw [z0, z0, z0, z0, s1] at h
    rw [hw1]; exact h)
  have HP := (show Hid (GI w A gs ∧ ∀ g ∈ gs, ∀ n ∈ g.2, NdW n) from ⟨hp, hnw⟩)
  have HN := (show Hid (∀ _ : Unit, Calls Tryz.prog 21 #[.agg #[.slice A gs.length c]] w1 fun e w' => KoR w1 w' gs e ∧ Below w1.heap.size w1 w') from fun _ => fsKnownOf_any gs A c w1 (hp.later HS1.out.1) hnw)
  have q1 := HS1.out.2.1.cl
  clear hp hnw hw1
  go_enter Tryz.func15, Tryz.ntmps15
  go_wp2_with (rw [HE1.out])
  refine (HN.out ()).mono ?_
  rintro e w2 ⟨hr, b2⟩
  by_cases hz : (ckG gs).2 = 0
  · obtain ⟨mb, Ak, cE, now, vb, vr, ov, fs, rfl, hk, hbd, hfx, hkn, hnl, hok⟩ := hr.2 hz
    have hp := hk.p
    have hfl := hfx.i.l
    rw [hfl] at hp
    obtain ⟨Ar, cr, rfl⟩ := own_sl hp
    have hob := hk.o.o
    rw [hbd.l] at hob
    obtain ⟨Ab, cb, rfl⟩ := own_sl hob
    obtain ⟨w3, hw3⟩ : ∃ w3, w3 = w2.alloc (.cells #[.map (some mb), .slice Ak gs.length cE, .slice Ab gs.length cb, .slice Ar gs.length cr] 56) := ⟨_, rfl⟩
    have HE3 := (show Hid (w2.alloc (.cells #[.map (some mb), .slice Ak gs.length cE, .slice Ab gs.length cb, .slice Ar gs.length cr] 56) = w3) from hw3.symm)
    obtain ⟨kb, hkb⟩ : ∃ kb, kb = w2.heap.size := ⟨_, rfl⟩
    have HKb := (show Hid (w2.heap.size = kb) from hkb.symm)
    have hb3 : Below w2.heap.size w2 w3 := by rw [hw3]; exact below_box _ _
    have HS3 := (show Hid (Below w.heap.size w w3 ∧ GX w3 w.heap.size (.slice A gs.length c) ∧ FX w3 (w.heap.size + 1) f0 ∧ KyX w3 kb (.map (some mb)) (.slice Ak gs.length cE) (.slice Ab gs.length cb) (.slice Ar gs.length cr)) from ⟨HS1.out.1.trans ((b2.trans (hb3.mono b2.size)).mono HS1.out.1.size), HS1.out.2.1.below (b2.trans (hb3.mono b2.size)), HS1.out.2.2.below (b2.trans (hb3.mono b2.size)), by rw [hw3, hkb]; exact KyX.new w2 _ _ _ _⟩)
    have HKn := (show Hid (KnG gs now w3 mb Ak Ar fs ∧ FxR gs now fs ∧ KnF gs now ∧ now.length = gs.length ∧ OkN gs now) from ⟨⟨hk.m.later hb3, hk.d.later hb3, by
      have hn1 := (ckG_ok.1 hz).n1
      obtain ⟨g9, c9, e9, _⟩ := hp.form (by omega)
      injection e9 with e91 e92 e93
      subst e91
      have h2 := fs_read (T.own_below hp hb3) [] fs rfl
      rw [List.length_nil, Nat.zero_mul] at h2
      exact h2, hfl, hnl⟩, hfx, hkn, hnl, hok⟩)
    have HOw := (show Hid (w3.ownsRow w.heap.size 36 6 (.slice Ar gs.length cr) gs.length (fsc fs) ∧ OB w3 w.heap.size (.slice Ab gs.length cb) ov ∧ BdK gs now w3 gs.length ov) from by
      have h1 := HS1.out.1.size
      have h2 := hk.e1
      exact ⟨T.own_below (T.own_base hp (by omega)) hb3, (hk.o.base (by omega)).later hb3, hbd.later hb3⟩)
    have HZ := (show Hid ((ckG gs).2 = 0) from hz)
    have tz : ((ckG gs).2 != 0) = false := by rw [hz]; rfl
    clear hr hk hbd hfx hkn hnl hok hp hfl hob hw3 hb3 hz HN HE1 HS1 q1 hkb
    have k0 := HS3.out.2.2.2.c0
    have k1 := HS3.out.2.2.2.c1
    have k2 := HS3.out.2.2.2.c2
    have k3 := HS3.out.2.2.2.c3
    have HO := (show Hid (∀ _ : Unit, Calls Tryz.prog 27 #[.agg #[.map (some mb), .slice Ak gs.length cE, .slice Ab gs.length cb, .slice Ar gs.length cr], .slice Ap L.length cp] w3 fun e w' => (∃ x cd, e = .returned (.tuple #[fG x, .int .i64 cd]) ∧ FoR gs now fs L x cd) ∧ Below w3.heap.size w3 w') from fun _ => fsOfM_any gs now fs mb _ Ak Ar cE cr L Ap cp HTt.out.1 HTt.out.2.1 HTt.out.2.2.1 w3 HKn.out.1 (HTt.out.2.2.2.below HS3.out.1 (Nat.le_refl _)))
    generalize hcd : (ckG gs).2 = cd at tz ⊢
    clear hcd
    go_wp2_with (rw [HE3.out, HKb.out])
    refine (HO.out ()).mono ?_
    rintro e w5 ⟨⟨x, ce, rfl, hx⟩, b5⟩
    have HX := (show Hid (FoR gs now fs L x ce) from hx)
    have HF5 := (show Hid (Below w.heap.size w w5 ∧ FX w5 (w.heap.size + 1) f0) from ⟨HS3.out.1.trans (b5.mono HS3.out.1.size), HS3.out.2.2.1.below b5⟩)
    have HZr := (show Hid (FX (sF w5 (w.heap.size + 1) x) (w.heap.size + 1) x ∧ Below w.heap.size w (sF w5 (w.heap.size + 1) x)) from ⟨sF_fx HF5.out.2 x, sF_below _ _ HF5.out.1 (Nat.le_succ _)⟩)
    unfold sF at HZr
    have z0 := HF5.out.2.c0
    have z1 := HF5.out.2.c1
    have z2 := HF5.out.2.c2
    have z3 := HF5.out.2.c3
    have z4 := HF5.out.2.c4
    have z5 := HF5.out.2.c5
    have zf := HF5.out.2.fz
    clear hx b5 HF5 HO k0 k1 k2 k3
    go_wp2_with fail
    refine ret_fx2 (s := 4) (t := 5) (b := w.heap.size + 1) (x := .int .i64 ce) (by rfl) (by rfl) (by rfl) (by rfl) HZr.out.1 ?_
    exact ⟨⟨x, ce, rfl, ⟨fun q => absurd HZ.out q, fun _ => ⟨now, fs, HKn.out.2.2.1, HKn.out.2.2.2.1, HKn.out.2.1, HX.out⟩⟩⟩, HZr.out.2⟩
  · have HZ := (show Hid ((ckG gs).2 ≠ 0) from hz)
    obtain rfl := hr.1 hz
    have tz : ((ckG gs).2 != 0) = true := by rw [bne, beq_eq_false_iff_ne.2 hz]; rfl
    have HS3 := (show Hid (Below w.heap.size w (w2.alloc (.cells #[.map none, .slice none 0 0, .slice none 0 0, .slice none 0 0] 56)) ∧ FX w2 (w.heap.size + 1) f0 ∧ Below w.heap.size w w2) from ⟨(HS1.out.1.trans (b2.mono HS1.out.1.size)).alloc (HS1.out.1.trans (b2.mono HS1.out.1.size)).size _, HS1.out.2.2.below b2, HS1.out.1.trans (b2.mono HS1.out.1.size)⟩)
    clear hr hz b2 HN HE1 q1 HP HS1
    generalize hcd : (ckG gs).2 = cd at tz ⊢
    have HCD := (show Hid ((ckG gs).2 = cd) from hcd)
    clear hcd
    have HZr := (show Hid _ from FoS.ret1 HS3.out.2.2 HS3.out.2.1 (.cells #[.map none, .slice none 0 0, .slice none 0 0, .slice none 0 0] 56))
    have z0 := HS3.out.2.1.c0
    have z1 := HS3.out.2.1.c1
    have z2 := HS3.out.2.1.c2
    have z3 := HS3.out.2.1.c3
    have z4 := HS3.out.2.1.c4
    have z5 := HS3.out.2.1.c5
    have zf := HS3.out.2.1.fz
    have zl := HS3.out.2.1.lt
    go_wp2_with fail
    refine ret_fx2 (s := 4) (t := 5) (b := w.heap.size + 1) (x := .int .i64 cd) (by rfl) (by rfl) (by rfl) (by rfl) HZr.out.1 ?_
    exact ⟨⟨f0, cd, rfl, ⟨fun _ => ⟨HCD.out.symm, rfl⟩, fun q => absurd q HZ.out⟩⟩, HZr.out.2⟩
end Go.Proofs.YtbnihflihelimaaGreat.N

namespace Go.Proofs.YtbnihflihelimaaGreat.N
open Go.RowKit Go.Maps
open Go.Proofs.YtbnihflihelimaaGreat.T

open U (below_grown)
theorem enters_fsPartsM (args : Array Value) (w : World) : (callFunc 24 args).run Tryz.prog w = .ok (.enter 24 args) w := enters_of Tryz.func24 (by kernel_rfl) rfl args w
/-- What Parts answers. -/
def PsF (gs : GL) (r : Int) (l : List Fs) (cd : Int) : Prop := ((ckG gs).2 ≠ 0 → cd = (ckG gs).2 ∧ l = []) ∧ ((ckG gs).2 = 0 → (r < 0 ∨ (gs.length : Int) ≤ r → cd = 1 ∧ l = []) ∧ ∀ (k : Nat) g, r = k → gs[k]? = some g → cd = 0 ∧ ∃ now fs, KnF gs now ∧ now.length = gs.length ∧ FxR gs now fs ∧ l = (List.range g.2.length).map (faR gs now fs g.2))
set_option maxRecDepth 100000 in
set_option maxHeartbeats 16000000 in
theorem fsPartsC_any (gs : GL) (A : Option Addr) (c : Nat) (r : Int) (w : World) (hp : GI w A gs) (hnw : ∀ g ∈ gs, ∀ n ∈ g.2, NdW n) :
    Calls Tryz.prog 9 #[.agg #[.slice A gs.length c], .int .i64 r] w fun e w' => (∃ v l cd, e = .returned (.tuple #[v, .int .i64 cd]) ∧ PsF gs r l cd ∧ w'.ownsRow w.heap.size 36 6 v l.length (fsc l)) ∧ Below w.heap.size w w' := by
  obtain ⟨w1, hw1⟩ : ∃ w1, w1 = (w.alloc (.cells #[.slice A gs.length c] 24)) := ⟨_, rfl⟩
  have HE1 := (show Hid ((w.alloc (.cells #[.slice A gs.length c] 24)) = w1) from hw1.symm)
  have HS1 := (show Hid (Below w.heap.size w w1 ∧ GX w1 w.heap.size (.slice A gs.length c) ∧ True) from ⟨by rw [hw1]; exact below_box _ _, by rw [hw1]; exact GX.mk (heap_alloc_new w _), trivial⟩)
  have HP := (show Hid (GI w A gs ∧ ∀ g ∈ gs, ∀ n ∈ g.2, NdW n) from ⟨hp, hnw⟩)
  have HN := (show Hid (∀ _ : Unit, Calls Tryz.prog 21 #[.agg #[.slice A gs.length c]] w1 fun e w' => KoR w1 w' gs e ∧ Below w1.heap.size w1 w') from fun _ => fsKnownOf_any gs A c w1 (hp.later HS1.out.1) hnw)
  have q1 := HS1.out.2.1.cl
  clear hp hnw hw1
  go_enter Tryz.func9, Tryz.ntmps9
  go_wp2_with (rw [HE1.out])
  refine (HN.out ()).mono ?_
  rintro e w2 ⟨hr, b2⟩
  by_cases hz : (ckG gs).2 = 0
  · obtain ⟨mb, Ak, cE, now, vb, vr, ov, fs, rfl, hk, hbd, hfx, hkn, hnl, hok⟩ := hr.2 hz
    have hp := hk.p
    have hfl := hfx.i.l
    rw [hfl] at hp
    obtain ⟨Ar, cr, rfl⟩ := own_sl hp
    have hob := hk.o.o
    rw [hbd.l] at hob
    obtain ⟨Ab, cb, rfl⟩ := own_sl hob
    obtain ⟨w3, hw3⟩ : ∃ w3, w3 = w2.alloc (.cells #[.map (some mb), .slice Ak gs.length cE, .slice Ab gs.length cb, .slice Ar gs.length cr] 56) := ⟨_, rfl⟩
    have HE3 := (show Hid (w2.alloc (.cells #[.map (some mb), .slice Ak gs.length cE, .slice Ab gs.length cb, .slice Ar gs.length cr] 56) = w3) from hw3.symm)
    obtain ⟨kb, hkb⟩ : ∃ kb, kb = w2.heap.size := ⟨_, rfl⟩
    have HKb := (show Hid (w2.heap.size = kb) from hkb.symm)
    have hb3 : Below w2.heap.size w2 w3 := by rw [hw3]; exact below_box _ _
    have HS3 := (show Hid (Below w.heap.size w w3 ∧ GX w3 w.heap.size (.slice A gs.length c) ∧ True ∧ KyX w3 kb (.map (some mb)) (.slice Ak gs.length cE) (.slice Ab gs.length cb) (.slice Ar gs.length cr)) from ⟨HS1.out.1.trans ((b2.trans (hb3.mono b2.size)).mono HS1.out.1.size), HS1.out.2.1.below (b2.trans (hb3.mono b2.size)), trivial, by rw [hw3, hkb]; exact KyX.new w2 _ _ _ _⟩)
    have HKn := (show Hid (KnG gs now w3 mb Ak Ar fs ∧ FxR gs now fs ∧ KnF gs now ∧ now.length = gs.length ∧ OkN gs now) from ⟨⟨hk.m.later hb3, hk.d.later hb3, by
      have hn1 := (ckG_ok.1 hz).n1
      obtain ⟨g9, c9, e9, _⟩ := hp.form (by omega)
      injection e9 with e91 e92 e93
      subst e91
      have h2 := fs_read (T.own_below hp hb3) [] fs rfl
      rw [List.length_nil, Nat.zero_mul] at h2
      exact h2, hfl, hnl⟩, hfx, hkn, hnl, hok⟩)
    have HOw := (show Hid (w3.ownsRow w.heap.size 36 6 (.slice Ar gs.length cr) gs.length (fsc fs) ∧ OB w3 w.heap.size (.slice Ab gs.length cb) ov ∧ BdK gs now w3 gs.length ov) from by
      have h1 := HS1.out.1.size
      have h2 := hk.e1
      exact ⟨T.own_below (T.own_base hp (by omega)) hb3, (hk.o.base (by omega)).later hb3, hbd.later hb3⟩)
    have HZ := (show Hid ((ckG gs).2 = 0) from hz)
    have tz : ((ckG gs).2 != 0) = false := by rw [hz]; rfl
    clear hr hk hbd hfx hkn hnl hok hp hfl hob hw3 hb3 hz HN HE1 HS1 q1 hkb
    have k0 := HS3.out.2.2.2.c0
    have k1 := HS3.out.2.2.2.c1
    have k2 := HS3.out.2.2.2.c2
    have k3 := HS3.out.2.2.2.c3
    have g3 := HS3.out.2.1.cl
    have HR := (show Hid (RtG gs) from ckG_ok.1 HZ.out)
    generalize hcd : (ckG gs).2 = cd at tz ⊢
    clear hcd
    by_cases h0 : r < 0
    · have t0 : decide (r < 0) = true := decide_eq_true h0
      have H0 := (show Hid (r < 0) from h0)
      go_wp2_with (rw [HE3.out, HKb.out])
      refine bodyPost_ret (v := .tuple #[.slice none 0 0, .int .i64 1]) (by simp [results, Tryz.results9, go_sem]) rfl ?_
      exact ⟨⟨_, [], 1, rfl, ⟨fun q => absurd HZ.out q, fun _ => ⟨fun _ => ⟨rfl, rfl⟩, fun k g hk _ => by have := H0.out; omega⟩⟩, World.ownsRow_nil _ _ _ _⟩, HS3.out.1⟩
    · have t0 : decide (r < 0) = false := decide_eq_false h0
      by_cases h1 : (gs.length : Int) ≤ r
      · have t1 : decide ((gs.length : Int) ≤ r) = true := decide_eq_true h1
        have H1 := (show Hid ((gs.length : Int) ≤ r) from h1)
        go_wp2_with (rw [HE3.out, HKb.out])
        refine bodyPost_ret (v := .tuple #[.slice none 0 0, .int .i64 1]) (by simp [results, Tryz.results9, go_sem]) rfl ?_
        exact ⟨⟨_, [], 1, rfl, ⟨fun q => absurd HZ.out q, fun _ => ⟨fun _ => ⟨rfl, rfl⟩, fun k g hk hg => by have := H1.out; have := (List.getElem?_eq_some_iff.1 hg).1; omega⟩⟩, World.ownsRow_nil _ _ _ _⟩, HS3.out.1⟩
      · have t1 : decide ((gs.length : Int) ≤ r) = false := decide_eq_false h1
        obtain ⟨k, rfl⟩ : ∃ k : Nat, r = k := ⟨r.toNat, by omega⟩
        have hk : k < gs.length := by omega
        obtain ⟨g, hg⟩ : ∃ g, gs[k]? = some g := ⟨_, List.getElem?_eq_getElem hk⟩
        have HG := (show Hid (gs[k]? = some g) from hg)
        have hm := List.mem_of_getElem? hg
        obtain ⟨Ap, cp, v, hx, hrd⟩ := HOw.out.2.2.x k g hk hg
        have hmo := HOw.out.2.1.e _ (List.mem_of_getElem? hx)
        dsimp only at hmo
        rw [mkV_len] at hmo
        have hB := bdR_of HR.out hm (HP.out.2 g hm) (HP.out.1.t g hm).2.2
        have hw3d : Below w3.heap.size w3 w3.drew := (Below.refl _ _).drew
        obtain ⟨Av, cv, rfl, hrc⟩ := own_rdc hB.pos hmo
        have hob := HOw.out.2.1.o
        rw [HOw.out.2.2.l] at hob
        obtain ⟨gb, cb2, e9, _⟩ := hob.form (by omega)
        obtain ⟨rfl, rfl⟩ : Ab = some ⟨gb, 0, none⟩ ∧ cb = cb2 := by injection e9 with a1 a2 a3; exact ⟨a1, a3⟩
        obtain ⟨x0, x1⟩ := HOw.out.2.1.cell hx
        have HC := (show Hid (∀ _ : Unit, Calls Tryz.prog 24 #[.agg #[.map (some mb), .slice Ak gs.length cE, .slice (some ⟨gb, 0, none⟩) gs.length cb, .slice Ar gs.length cr], .agg #[.slice Ap g.2.length cp, .slice Av g.2.length cv]] w3.drew fun e w' => (∃ v, e = .returned v ∧ w'.ownsRow w.heap.size 36 6 v g.2.length (fsc ((List.range g.2.length).map (faR gs now fs g.2)))) ∧ Below w.heap.size w w') from fun _ => by
          refine (fsParts_any mb _ _ Ar Ap Av cr cp cv hB.rt hB.ks hB.al hB.pos hB.len hB.nw hB.sz hB.dn HKn.out.1.l w3.drew (HKn.out.1.m.later hw3d) (HKn.out.1.r.later hw3d) (hrd.below hw3d (Nat.le_refl _)) (hrc.later hw3d)).mono ?_
          rintro e w' ⟨⟨v, rfl, ho⟩, b⟩
          have hbw := HS3.out.1.trans (hw3d.mono HS3.out.1.size)
          exact ⟨⟨v, rfl, T.own_base ho hbw.size⟩, hbw.trans (b.mono hbw.size)⟩)
        have kd := HS3.out.2.2.2.below hw3d
        have l0 := kd.c0
        have l1 := kd.c1
        have l2 := kd.c2
        have l3 := kd.c3
        have hobd := HOw.out.2.1.later hw3d
        obtain ⟨y0, y1⟩ := hobd.cell hx
        have z0 : (0 : Int) ≤ (k : Int) := by omega
        have z1 : (k : Int) < (gs.length : Int) := by omega
        obtain ⟨nm, L⟩ := g
        dsimp only at HC y0 y1
        clear hg hm hx hrd hmo hB hw3d hrc hob x0 x1 kd hobd h0 h1 hk HR HP HOw
        go_wp2_with (rw [HE3.out, HKb.out])
        go_region_law (refine step_call2 enters_fsPartsM rfl _ _ _ _ (by rfl) (.agg #[.map (some mb), .slice Ak gs.length cE, .slice (some ⟨gb, 0, none⟩) gs.length cb, .slice Ar gs.length cr]) (.agg #[.slice Ap L.length cp, .slice Av L.length cv]) (by rfl) (by rfl) ?_; with_reducible refine (HC.out ()).mono ?_; rintro e wA ⟨⟨v, rfl, hA⟩, bA⟩; refine ⟨_, rfl, ?_⟩)
        all_goals
          go_wp2_with fail
          refine bodyPost_ret (v := .tuple #[v, .int .i64 0]) (by simp [results, Tryz.results9, go_sem]) rfl ?_
          refine ⟨⟨v, _, 0, rfl, ⟨fun q => absurd HZ.out q, fun _ => ⟨fun q => by omega, fun k2 g2 e2 hg2 => ?_⟩⟩, by rw [List.length_map, List.length_range]; exact hA⟩, bA⟩
          obtain rfl : k = k2 := by omega
          have hg := HG.out
          rw [hg2] at hg
          cases hg
          exact ⟨rfl, now, fs, HKn.out.2.2.1, HKn.out.2.2.2.1, HKn.out.2.1, rfl⟩
  · have HZ := (show Hid ((ckG gs).2 ≠ 0) from hz)
    obtain rfl := hr.1 hz
    have tz : ((ckG gs).2 != 0) = true := by rw [bne, beq_eq_false_iff_ne.2 hz]; rfl
    have HS3 := (show Hid (Below w.heap.size w (w2.alloc (.cells #[.map none, .slice none 0 0, .slice none 0 0, .slice none 0 0] 56))) from (HS1.out.1.trans (b2.mono HS1.out.1.size)).alloc (HS1.out.1.trans (b2.mono HS1.out.1.size)).size _)
    clear hr hz b2 HN HE1 q1 HP HS1
    generalize hcd : (ckG gs).2 = cd at tz ⊢
    have HCD := (show Hid ((ckG gs).2 = cd) from hcd)
    clear hcd
    go_wp2_with fail
    refine bodyPost_ret (v := .tuple #[.slice none 0 0, .int .i64 cd]) (by simp [results, Tryz.results9, go_sem]) rfl ?_
    exact ⟨⟨_, [], cd, rfl, ⟨fun _ => ⟨HCD.out.symm, rfl⟩, fun q => absurd q HZ.out⟩, World.ownsRow_nil _ _ _ _⟩, HS3.out⟩
end Go.Proofs.YtbnihflihelimaaGreat.N

namespace Go.Proofs.YtbnihflihelimaaGreat.N
open Go.RowKit Go.Maps
open Go.Proofs.YtbnihflihelimaaGreat.T
/-- What Decided answers. -/
def DeF (gs : GL) (L M : List Nd) (b : Bool) (cd : Int) : Prop := ((ckG gs).2 ≠ 0 → cd = (ckG gs).2 ∧ b = false) ∧ ((ckG gs).2 = 0 → ∃ now fs x cx, KnF gs now ∧ now.length = gs.length ∧ FxR gs now fs ∧ FoR gs now fs L x cx ∧ (cx ≠ 0 → cd = cx ∧ b = false) ∧ (cx = 0 → ∃ y cy, FoR gs now fs M y cy ∧ (cy ≠ 0 → cd = cy ∧ b = false) ∧ (cy = 0 → cd = 0 ∧ b = dcF x y)))
set_option maxRecDepth 100000 in
set_option maxHeartbeats 16000000 in
theorem fsDecidedC_any (gs : GL) (A : Option Addr) (c : Nat) (L M : List Nd) (Ap Aq : Option Addr) (cp cq : Nat) (hL : L.length ≤ 140737488355328) (hT : ∀ n ∈ L, n.tx.size ≤ 140737488355328) (hw : ∀ n ∈ L, NdW n) (hL2 : M.length ≤ 140737488355328) (hT2 : ∀ n ∈ M, n.tx.size ≤ 140737488355328) (hw2 : ∀ n ∈ M, NdW n) (w : World) (hp : GI w A gs) (hnw : ∀ g ∈ gs, ∀ n ∈ g.2, NdW n) (hr : RdN w Ap L) (hr2 : RdN w Aq M) :
    Calls Tryz.prog 17 #[.agg #[.slice A gs.length c], .slice Ap L.length cp, .slice Aq M.length cq] w fun e w' => (∃ b cd, e = .returned (.tuple #[.bool b, .int .i64 cd]) ∧ DeF gs L M b cd) ∧ Below w.heap.size w w' := by
  have HTt := (show Hid (L.length ≤ 140737488355328 ∧ (∀ n ∈ L, n.tx.size ≤ 140737488355328) ∧ (∀ n ∈ L, NdW n) ∧ RdN w Ap L) from ⟨hL, hT, hw, hr⟩)
  have HTm := (show Hid (M.length ≤ 140737488355328 ∧ (∀ n ∈ M, n.tx.size ≤ 140737488355328) ∧ (∀ n ∈ M, NdW n) ∧ RdN w Aq M) from ⟨hL2, hT2, hw2, hr2⟩)
  clear hL hT hw hr hL2 hT2 hw2 hr2
  obtain ⟨w1, hw1⟩ : ∃ w1, w1 = (w.alloc (.cells #[.slice A gs.length c] 24)) := ⟨_, rfl⟩
  have HE1 := (show Hid ((w.alloc (.cells #[.slice A gs.length c] 24)) = w1) from hw1.symm)
  have HS1 := (show Hid (Below w.heap.size w w1 ∧ GX w1 w.heap.size (.slice A gs.length c) ∧ True) from ⟨by rw [hw1]; exact below_box _ _, by rw [hw1]; exact GX.mk (heap_alloc_new w _), trivial⟩)
  have HP := (show Hid (GI w A gs ∧ ∀ g ∈ gs, ∀ n ∈ g.2, NdW n) from ⟨hp, hnw⟩)
  have HN := (show Hid (∀ _ : Unit, Calls Tryz.prog 21 #[.agg #[.slice A gs.length c]] w1 fun e w' => KoR w1 w' gs e ∧ Below w1.heap.size w1 w') from fun _ => fsKnownOf_any gs A c w1 (hp.later HS1.out.1) hnw)
  have q1 := HS1.out.2.1.cl
  clear hp hnw hw1
  go_enter Tryz.func17, Tryz.ntmps17
  go_wp2_with (rw [HE1.out])
  refine (HN.out ()).mono ?_
  rintro e w2 ⟨hr, b2⟩
  by_cases hz : (ckG gs).2 = 0
  · obtain ⟨mb, Ak, cE, now, vb, vr, ov, fs, rfl, hk, hbd, hfx, hkn, hnl, hok⟩ := hr.2 hz
    have hp := hk.p
    have hfl := hfx.i.l
    rw [hfl] at hp
    obtain ⟨Ar, cr, rfl⟩ := own_sl hp
    have hob := hk.o.o
    rw [hbd.l] at hob
    obtain ⟨Ab, cb, rfl⟩ := own_sl hob
    obtain ⟨w3, hw3⟩ : ∃ w3, w3 = w2.alloc (.cells #[.map (some mb), .slice Ak gs.length cE, .slice Ab gs.length cb, .slice Ar gs.length cr] 56) := ⟨_, rfl⟩
    have HE3 := (show Hid (w2.alloc (.cells #[.map (some mb), .slice Ak gs.length cE, .slice Ab gs.length cb, .slice Ar gs.length cr] 56) = w3) from hw3.symm)
    obtain ⟨kb, hkb⟩ : ∃ kb, kb = w2.heap.size := ⟨_, rfl⟩
    have HKb := (show Hid (w2.heap.size = kb) from hkb.symm)
    have hb3 : Below w2.heap.size w2 w3 := by rw [hw3]; exact below_box _ _
    have HS3 := (show Hid (Below w.heap.size w w3 ∧ GX w3 w.heap.size (.slice A gs.length c) ∧ True ∧ KyX w3 kb (.map (some mb)) (.slice Ak gs.length cE) (.slice Ab gs.length cb) (.slice Ar gs.length cr)) from ⟨HS1.out.1.trans ((b2.trans (hb3.mono b2.size)).mono HS1.out.1.size), HS1.out.2.1.below (b2.trans (hb3.mono b2.size)), trivial, by rw [hw3, hkb]; exact KyX.new w2 _ _ _ _⟩)
    have HKn := (show Hid (KnG gs now w3 mb Ak Ar fs ∧ FxR gs now fs ∧ KnF gs now ∧ now.length = gs.length ∧ OkN gs now) from ⟨⟨hk.m.later hb3, hk.d.later hb3, by
      have hn1 := (ckG_ok.1 hz).n1
      obtain ⟨g9, c9, e9, _⟩ := hp.form (by omega)
      injection e9 with e91 e92 e93
      subst e91
      have h2 := fs_read (T.own_below hp hb3) [] fs rfl
      rw [List.length_nil, Nat.zero_mul] at h2
      exact h2, hfl, hnl⟩, hfx, hkn, hnl, hok⟩)
    have HOw := (show Hid (w3.ownsRow w.heap.size 36 6 (.slice Ar gs.length cr) gs.length (fsc fs) ∧ OB w3 w.heap.size (.slice Ab gs.length cb) ov ∧ BdK gs now w3 gs.length ov) from by
      have h1 := HS1.out.1.size
      have h2 := hk.e1
      exact ⟨T.own_below (T.own_base hp (by omega)) hb3, (hk.o.base (by omega)).later hb3, hbd.later hb3⟩)
    have HZ := (show Hid ((ckG gs).2 = 0) from hz)
    have tz : ((ckG gs).2 != 0) = false := by rw [hz]; rfl
    clear hr hk hbd hfx hkn hnl hok hp hfl hob hw3 hb3 hz HN HE1 HS1 q1 hkb
    have k0 := HS3.out.2.2.2.c0
    have k1 := HS3.out.2.2.2.c1
    have k2 := HS3.out.2.2.2.c2
    have k3 := HS3.out.2.2.2.c3
    have HO := (show Hid (∀ _ : Unit, Calls Tryz.prog 27 #[.agg #[.map (some mb), .slice Ak gs.length cE, .slice Ab gs.length cb, .slice Ar gs.length cr], .slice Ap L.length cp] w3 fun e w' => (∃ x cd, e = .returned (.tuple #[fG x, .int .i64 cd]) ∧ FoR gs now fs L x cd) ∧ Below w3.heap.size w3 w') from fun _ => fsOfM_any gs now fs mb _ Ak Ar cE cr L Ap cp HTt.out.1 HTt.out.2.1 HTt.out.2.2.1 w3 HKn.out.1 (HTt.out.2.2.2.below HS3.out.1 (Nat.le_refl _)))
    have HO2 := (show Hid (∀ W, Below w3.heap.size w3 W → Calls Tryz.prog 27 #[.agg #[.map (some mb), .slice Ak gs.length cE, .slice Ab gs.length cb, .slice Ar gs.length cr], .slice Aq M.length cq] W fun e w' => (∃ x cd, e = .returned (.tuple #[fG x, .int .i64 cd]) ∧ FoR gs now fs M x cd) ∧ Below W.heap.size W w') from fun W hW => fsOfM_any gs now fs mb _ Ak Ar cE cr M Aq cq HTm.out.1 HTm.out.2.1 HTm.out.2.2.1 W (HKn.out.1.later hW) (HTm.out.2.2.2.below (HS3.out.1.trans (hW.mono HS3.out.1.size)) (Nat.le_refl _)))
    have HAn := (show Hid (KnF gs now ∧ now.length = gs.length ∧ FxR gs now fs) from ⟨HKn.out.2.2.1, HKn.out.2.2.2.1, HKn.out.2.1⟩)
    generalize hcd : (ckG gs).2 = cd at tz ⊢
    clear hcd HOw HKn HP
    go_wp2_with (rw [HE3.out, HKb.out])
    refine (HO.out ()).mono ?_
    rintro e w5 ⟨⟨x, cx, rfl, hx⟩, b5⟩
    have HX := (show Hid (FoR gs now fs L x cx) from hx)
    obtain ⟨w6, hw6⟩ : ∃ w6, w6 = w5.alloc (.cells #[.int .u64 (wd x.st 0), .int .u64 (wd x.st 1), .int .u64 (wd x.st 2), .int .u64 (wd x.st 3), .bool x.em, .bool x.hf] 36) := ⟨_, rfl⟩
    have HE6 := (show Hid (w5.alloc (.cells #[.int .u64 (wd x.st 0), .int .u64 (wd x.st 1), .int .u64 (wd x.st 2), .int .u64 (wd x.st 3), .bool x.em, .bool x.hf] 36) = w6) from hw6.symm)
    have hb6 : Below w3.heap.size w3 w6 := by rw [hw6]; exact b5.alloc b5.size _
    have HF6 := (show Hid (FX w6 w5.heap.size x) from by rw [hw6]; exact FX.new w5 x)
    have HS6 := (show Hid (Below w.heap.size w w6 ∧ KyX w6 kb (.map (some mb)) (.slice Ak gs.length cE) (.slice Ab gs.length cb) (.slice Ar gs.length cr)) from ⟨HS3.out.1.trans (hb6.mono HS3.out.1.size), HS3.out.2.2.2.below hb6⟩)
    have HO6 := (show Hid (∀ _ : Unit, _) from fun _ => HO2.out w6 hb6)
    clear hw6 hb6 hx b5 HO HO2 k0 k1 k2 k3
    by_cases hcx : cx = 0
    · subst hcx
      have k0 := HS6.out.2.c0
      have k1 := HS6.out.2.c1
      have k2 := HS6.out.2.c2
      have k3 := HS6.out.2.c3
      go_wp2_with (rw [HE6.out])
      refine (HO6.out ()).mono ?_
      rintro e w7 ⟨⟨y, cy, rfl, hy⟩, b7⟩
      have HY := (show Hid (FoR gs now fs M y cy) from hy)
      obtain ⟨w8, hw8⟩ : ∃ w8, w8 = w7.alloc (.cells #[.int .u64 (wd y.st 0), .int .u64 (wd y.st 1), .int .u64 (wd y.st 2), .int .u64 (wd y.st 3), .bool y.em, .bool y.hf] 36) := ⟨_, rfl⟩
      have HE8 := (show Hid (w7.alloc (.cells #[.int .u64 (wd y.st 0), .int .u64 (wd y.st 1), .int .u64 (wd y.st 2), .int .u64 (wd y.st 3), .bool y.em, .bool y.hf] 36) = w8) from hw8.symm)
      have hb8 : Below w6.heap.size w6 w8 := by rw [hw8]; exact b7.alloc b7.size _
      have HF8 := (show Hid (FX w8 w7.heap.size y ∧ FX w8 w5.heap.size x ∧ Below w.heap.size w w8) from ⟨by rw [hw8]; exact FX.new w7 y, HF6.out.below hb8, HS6.out.1.trans (hb8.mono HS6.out.1.size)⟩)
      have HDc := (show Hid (∀ _ : Unit, Calls Tryz.prog 29 #[fG x, fG y] w8 fun e w' => e = .returned (.bool (dcF x y)) ∧ Below w8.heap.size w8 w') from fun _ => decided_any x y w8)
      clear hw8 hb8 hy b7 HO6 k0 k1 k2 k3
      by_cases hcy : cy = 0
      · subst hcy
        have z0 := HF8.out.1.c0
        have z1 := HF8.out.1.c1
        have z2 := HF8.out.1.c2
        have z3 := HF8.out.1.c3
        have z4 := HF8.out.1.c4
        have z5 := HF8.out.1.c5
        have y0 := HF8.out.2.1.c0
        have y1 := HF8.out.2.1.c1
        have y2 := HF8.out.2.1.c2
        have y3 := HF8.out.2.1.c3
        have y4 := HF8.out.2.1.c4
        have y5 := HF8.out.2.1.c5
        go_wp2_with (rw [HE8.out])
        refine (HDc.out ()).mono ?_
        rintro e w9 ⟨rfl, b9⟩
        go_wp2_with fail
        refine bodyPost_ret (v := .tuple #[.bool (dcF x y), .int .i64 0]) (by simp [results, Tryz.results17, go_sem]) rfl ?_
        exact ⟨⟨_, 0, rfl, ⟨fun q => absurd HZ.out q, fun _ => ⟨now, fs, x, 0, HAn.out.1, HAn.out.2.1, HAn.out.2.2, HX.out, fun q => absurd rfl q, fun _ => ⟨y, 0, HY.out, fun q => absurd rfl q, fun _ => ⟨rfl, rfl⟩⟩⟩⟩⟩, HF8.out.2.2.trans (b9.mono HF8.out.2.2.size)⟩
      · have ty : (cy != 0) = true := by rw [bne, beq_eq_false_iff_ne.2 hcy]; rfl
        have HCy := (show Hid (cy ≠ 0) from hcy)
        clear hcy
        go_wp2_with (rw [HE8.out])
        refine bodyPost_ret (v := .tuple #[.bool false, .int .i64 cy]) (by simp [results, Tryz.results17, go_sem]) rfl ?_
        exact ⟨⟨_, cy, rfl, ⟨fun q => absurd HZ.out q, fun _ => ⟨now, fs, x, 0, HAn.out.1, HAn.out.2.1, HAn.out.2.2, HX.out, fun q => absurd rfl q, fun _ => ⟨y, cy, HY.out, fun _ => ⟨rfl, rfl⟩, fun q => absurd q HCy.out⟩⟩⟩⟩, HF8.out.2.2⟩
    · have tx : (cx != 0) = true := by rw [bne, beq_eq_false_iff_ne.2 hcx]; rfl
      have HCx := (show Hid (cx ≠ 0) from hcx)
      clear hcx
      go_wp2_with (rw [HE6.out])
      refine bodyPost_ret (v := .tuple #[.bool false, .int .i64 cx]) (by simp [results, Tryz.results17, go_sem]) rfl ?_
      exact ⟨⟨_, cx, rfl, ⟨fun q => absurd HZ.out q, fun _ => ⟨now, fs, x, cx, HAn.out.1, HAn.out.2.1, HAn.out.2.2, HX.out, fun _ => ⟨rfl, rfl⟩, fun q => absurd q HCx.out⟩⟩⟩, HS6.out.1⟩
  · have HZ := (show Hid ((ckG gs).2 ≠ 0) from hz)
    obtain rfl := hr.1 hz
    have tz : ((ckG gs).2 != 0) = true := by rw [bne, beq_eq_false_iff_ne.2 hz]; rfl
    have HS3 := (show Hid (Below w.heap.size w (w2.alloc (.cells #[.map none, .slice none 0 0, .slice none 0 0, .slice none 0 0] 56))) from (HS1.out.1.trans (b2.mono HS1.out.1.size)).alloc (HS1.out.1.trans (b2.mono HS1.out.1.size)).size _)
    clear hr hz b2 HN HE1 q1 HP HS1
    generalize hcd : (ckG gs).2 = cd at tz ⊢
    have HCD := (show Hid ((ckG gs).2 = cd) from hcd)
    clear hcd
    go_wp2_with fail
    refine bodyPost_ret (v := .tuple #[.bool false, .int .i64 cd]) (by simp [results, Tryz.results17, go_sem]) rfl ?_
    exact ⟨⟨_, cd, rfl, ⟨fun _ => ⟨HCD.out.symm, rfl⟩, fun q => absurd q HZ.out⟩⟩, HS3.out⟩
end Go.Proofs.YtbnihflihelimaaGreat.N

namespace Go.Proofs.YtbnihflihelimaaGreat.N
open Go.RowKit Go.Maps
open Go.Proofs.YtbnihflihelimaaGreat.T

open U (below_grown)
def nA : Nd := ⟨4, 0, ⟨#[97]⟩, 0, 0, 0, 0⟩
def nB : Nd := ⟨4, 0, ⟨#[98]⟩, 0, 0, 0, 0⟩
def nK (op n : Int) : Nd := ⟨op, n, ⟨#[]⟩, 0, 0, 0, 0⟩
def exL : List Nd := [nA, nB, nK 9 0, nK 7 0]
def exP : List Nd := [nA, nK 9 0, nB, nK 7 0]
def exG : GL := [(⟨#[115]⟩, exL)]
theorem ex_ck : (ckG exG).2 = 0 := by kernel_rfl
theorem ex_cp : (ck exP).2 = 0 := by kernel_rfl
def zL : Fs := ⟨ofL [97], false, true⟩
def zP : Fs := ⟨ofL [97, 98], false, false⟩
theorem ex_L (now : List Em) (fs : List Fs) : faR exG now fs exL 3 = zL := by kernel_rfl
theorem ex_P (now : List Em) (fs : List Fs) : faR exG now fs exP 3 = zP := by kernel_rfl
theorem ex_fs {now : List Em} {fs : List Fs} (h : FxR exG now fs) : fs = [zL] := by
  have hl : fs.length = 1 := h.i.l
  have hx := h.x 0 (by show 0 < 1; omega)
  match fs, hl with
  | [a], _ =>
    have e : some a = some (spF exG now [a] 0) := hx
    have e2 : spF exG now [a] 0 = zL := ex_L now [a]
    rw [Option.some.inj e, e2]
/-- Nodes that were just laid are read. -/
theorem rd_lit (w : World) (L : List Nd) (cs : Array Value) (hn : L.length ≤ 100) (hc : cs.toList = ndc L) : RdN (w.alloc (.cells cs 70)) (some ⟨w.heap.size, 0, none⟩) L := fun _ => by
  have hs : cs.size = L.length * 7 := by rw [← Array.length_toList, hc, ndc_len]
  have ho : (w.alloc (.cells cs 70)).ownsRow w.heap.size 70 7 (.slice (some ⟨w.heap.size, 0, none⟩) L.length L.length) L.length (ndc L ++ []) := by
    rw [List.append_nil, ← hc]
    exact World.ownsRow_lit w cs L.length (Nat.le_refl _) (by unfold maxLen; omega) hs
  exact ⟨w.heap.size, 0, rfl, by rw [World.size_alloc]; omega, own_ndl ho⟩
theorem gi_one2 {W : World} {kk g cap n : Nat} {M : List Nd} {s : ByteArray} (hs : s.size ≤ 140737488355328) (hl : M.length = n) (hn : n ≤ 2048) (ht : ∀ n ∈ M, n.tx.size ≤ 140737488355328) (o : RdN W (some ⟨g, 0, none⟩) M) (hr : RB W kk s (.slice (some ⟨g, 0, none⟩) n cap)) : GI W (some ⟨kk, 0, none⟩) [(s, M)] := by
  subst hl
  refine ⟨fun k p hp => ?_, by show 1 ≤ _; omega, fun p hp => ?_⟩
  · have hk := (List.getElem?_eq_some_iff.1 hp).1
    have e : k = 0 := by simp at hk; exact hk
    subst e
    cases hp
    exact ⟨kk, 0, some ⟨g, 0, none⟩, cap, rfl, hr.lt, hr.c0, hr.c1, o⟩
  · rw [List.mem_singleton.1 hp]
    exact ⟨hs, by show M.length ≤ _; omega, ht⟩
theorem ex_tx : (∀ n ∈ exL, n.tx.size ≤ 140737488355328) ∧ (∀ n ∈ exP, n.tx.size ≤ 140737488355328) ∧ (∀ n ∈ exL, NdW n) ∧ (∀ n ∈ exP, NdW n) := by
  refine ⟨fun n hn => ?_, fun n hn => ?_, fun n hn => ?_, fun n hn => ?_⟩
  all_goals
    simp only [exL, exP, List.mem_cons, List.not_mem_nil, or_false] at hn
    rcases hn with rfl | rfl | rfl | rfl
  all_goals first | exact ⟨by decide, by decide, by decide, by decide⟩ | (show 1 ≤ _; omega) | (show 0 ≤ _; omega)
theorem ex_gi (w : World) : GI (((((w.alloc (.cells #[.int .i64 4, .int .i64 0, .string ⟨#[97]⟩, .int .u64 0, .int .u64 0, .int .u64 0, .int .u64 0] 70)).alloc (.cells #[.int .i64 4, .int .i64 0, .string ⟨#[98]⟩, .int .u64 0, .int .u64 0, .int .u64 0, .int .u64 0] 70)).alloc (.cells #[.int .i64 4, .int .i64 0, .string ⟨#[97]⟩, .int .u64 0, .int .u64 0, .int .u64 0, .int .u64 0, .int .i64 4, .int .i64 0, .string ⟨#[98]⟩, .int .u64 0, .int .u64 0, .int .u64 0, .int .u64 0, .int .i64 9, .int .i64 0, .string ⟨#[]⟩, .int .u64 0, .int .u64 0, .int .u64 0, .int .u64 0, .int .i64 7, .int .i64 0, .string ⟨#[]⟩, .int .u64 0, .int .u64 0, .int .u64 0, .int .u64 0] 70)).alloc (.cells #[.string ⟨#[115]⟩, .slice (some ⟨w.heap.size + 1 + 1, 0, none⟩) 4 4] 50)).alloc (.cells #[.slice (some ⟨w.heap.size + 1 + 1 + 1, 0, none⟩) 1 1] 24)) (some ⟨w.heap.size + 1 + 1 + 1, 0, none⟩) exG ∧ Below w.heap.size w (((((w.alloc (.cells #[.int .i64 4, .int .i64 0, .string ⟨#[97]⟩, .int .u64 0, .int .u64 0, .int .u64 0, .int .u64 0] 70)).alloc (.cells #[.int .i64 4, .int .i64 0, .string ⟨#[98]⟩, .int .u64 0, .int .u64 0, .int .u64 0, .int .u64 0] 70)).alloc (.cells #[.int .i64 4, .int .i64 0, .string ⟨#[97]⟩, .int .u64 0, .int .u64 0, .int .u64 0, .int .u64 0, .int .i64 4, .int .i64 0, .string ⟨#[98]⟩, .int .u64 0, .int .u64 0, .int .u64 0, .int .u64 0, .int .i64 9, .int .i64 0, .string ⟨#[]⟩, .int .u64 0, .int .u64 0, .int .u64 0, .int .u64 0, .int .i64 7, .int .i64 0, .string ⟨#[]⟩, .int .u64 0, .int .u64 0, .int .u64 0, .int .u64 0] 70)).alloc (.cells #[.string ⟨#[115]⟩, .slice (some ⟨w.heap.size + 1 + 1, 0, none⟩) 4 4] 50)).alloc (.cells #[.slice (some ⟨w.heap.size + 1 + 1 + 1, 0, none⟩) 1 1] 24)) ∧ NX (((((w.alloc (.cells #[.int .i64 4, .int .i64 0, .string ⟨#[97]⟩, .int .u64 0, .int .u64 0, .int .u64 0, .int .u64 0] 70)).alloc (.cells #[.int .i64 4, .int .i64 0, .string ⟨#[98]⟩, .int .u64 0, .int .u64 0, .int .u64 0, .int .u64 0] 70)).alloc (.cells #[.int .i64 4, .int .i64 0, .string ⟨#[97]⟩, .int .u64 0, .int .u64 0, .int .u64 0, .int .u64 0, .int .i64 4, .int .i64 0, .string ⟨#[98]⟩, .int .u64 0, .int .u64 0, .int .u64 0, .int .u64 0, .int .i64 9, .int .i64 0, .string ⟨#[]⟩, .int .u64 0, .int .u64 0, .int .u64 0, .int .u64 0, .int .i64 7, .int .i64 0, .string ⟨#[]⟩, .int .u64 0, .int .u64 0, .int .u64 0, .int .u64 0] 70)).alloc (.cells #[.string ⟨#[115]⟩, .slice (some ⟨w.heap.size + 1 + 1, 0, none⟩) 4 4] 50)).alloc (.cells #[.slice (some ⟨w.heap.size + 1 + 1 + 1, 0, none⟩) 1 1] 24)) w.heap.size nA ∧ NX (((((w.alloc (.cells #[.int .i64 4, .int .i64 0, .string ⟨#[97]⟩, .int .u64 0, .int .u64 0, .int .u64 0, .int .u64 0] 70)).alloc (.cells #[.int .i64 4, .int .i64 0, .string ⟨#[98]⟩, .int .u64 0, .int .u64 0, .int .u64 0, .int .u64 0] 70)).alloc (.cells #[.int .i64 4, .int .i64 0, .string ⟨#[97]⟩, .int .u64 0, .int .u64 0, .int .u64 0, .int .u64 0, .int .i64 4, .int .i64 0, .string ⟨#[98]⟩, .int .u64 0, .int .u64 0, .int .u64 0, .int .u64 0, .int .i64 9, .int .i64 0, .string ⟨#[]⟩, .int .u64 0, .int .u64 0, .int .u64 0, .int .u64 0, .int .i64 7, .int .i64 0, .string ⟨#[]⟩, .int .u64 0, .int .u64 0, .int .u64 0, .int .u64 0] 70)).alloc (.cells #[.string ⟨#[115]⟩, .slice (some ⟨w.heap.size + 1 + 1, 0, none⟩) 4 4] 50)).alloc (.cells #[.slice (some ⟨w.heap.size + 1 + 1 + 1, 0, none⟩) 1 1] 24)) (w.heap.size + 1) nB ∧ GX (((((w.alloc (.cells #[.int .i64 4, .int .i64 0, .string ⟨#[97]⟩, .int .u64 0, .int .u64 0, .int .u64 0, .int .u64 0] 70)).alloc (.cells #[.int .i64 4, .int .i64 0, .string ⟨#[98]⟩, .int .u64 0, .int .u64 0, .int .u64 0, .int .u64 0] 70)).alloc (.cells #[.int .i64 4, .int .i64 0, .string ⟨#[97]⟩, .int .u64 0, .int .u64 0, .int .u64 0, .int .u64 0, .int .i64 4, .int .i64 0, .string ⟨#[98]⟩, .int .u64 0, .int .u64 0, .int .u64 0, .int .u64 0, .int .i64 9, .int .i64 0, .string ⟨#[]⟩, .int .u64 0, .int .u64 0, .int .u64 0, .int .u64 0, .int .i64 7, .int .i64 0, .string ⟨#[]⟩, .int .u64 0, .int .u64 0, .int .u64 0, .int .u64 0] 70)).alloc (.cells #[.string ⟨#[115]⟩, .slice (some ⟨w.heap.size + 1 + 1, 0, none⟩) 4 4] 50)).alloc (.cells #[.slice (some ⟨w.heap.size + 1 + 1 + 1, 0, none⟩) 1 1] 24)) (w.heap.size + 1 + 1 + 1 + 1) (.slice (some ⟨w.heap.size + 1 + 1 + 1, 0, none⟩) 1 1) := by
  obtain ⟨w2, h2⟩ : ∃ w2, w2 = ((w.alloc (.cells #[.int .i64 4, .int .i64 0, .string ⟨#[97]⟩, .int .u64 0, .int .u64 0, .int .u64 0, .int .u64 0] 70)).alloc (.cells #[.int .i64 4, .int .i64 0, .string ⟨#[98]⟩, .int .u64 0, .int .u64 0, .int .u64 0, .int .u64 0] 70)) := ⟨_, rfl⟩
  have s2 : w2.heap.size = w.heap.size + 1 + 1 := by rw [h2, World.size_alloc, World.size_alloc]
  have b2 : Below w.heap.size w w2 := by rw [h2]; exact ((Below.refl _ _).alloc (Nat.le_refl _) _).alloc (by rw [World.size_alloc]; omega) _
  have n1 : NX w2 w.heap.size nA := by
    have h : NX (w.alloc (.cells #[.int .i64 4, .int .i64 0, .string ⟨#[97]⟩, .int .u64 0, .int .u64 0, .int .u64 0, .int .u64 0] 70)) w.heap.size nA := ⟨heap_alloc_new w _⟩
    rw [h2]; exact nx_later h (below_box _ _)
  have n2 : NX w2 (w.heap.size + 1) nB := by
    have h : NX ((w.alloc (.cells #[.int .i64 4, .int .i64 0, .string ⟨#[97]⟩, .int .u64 0, .int .u64 0, .int .u64 0, .int .u64 0] 70)).alloc (.cells #[.int .i64 4, .int .i64 0, .string ⟨#[98]⟩, .int .u64 0, .int .u64 0, .int .u64 0, .int .u64 0] 70)) (w.heap.size + 1) nB := ⟨by have h := heap_alloc_new (w.alloc (.cells #[.int .i64 4, .int .i64 0, .string ⟨#[97]⟩, .int .u64 0, .int .u64 0, .int .u64 0, .int .u64 0] 70)) (.cells #[.int .i64 4, .int .i64 0, .string ⟨#[98]⟩, .int .u64 0, .int .u64 0, .int .u64 0, .int .u64 0] 70); rw [World.size_alloc] at h; exact h⟩
    rw [h2]; exact h
  rw [← h2]
  have r3 := rd_lit w2 exL #[.int .i64 4, .int .i64 0, .string ⟨#[97]⟩, .int .u64 0, .int .u64 0, .int .u64 0, .int .u64 0, .int .i64 4, .int .i64 0, .string ⟨#[98]⟩, .int .u64 0, .int .u64 0, .int .u64 0, .int .u64 0, .int .i64 9, .int .i64 0, .string ⟨#[]⟩, .int .u64 0, .int .u64 0, .int .u64 0, .int .u64 0, .int .i64 7, .int .i64 0, .string ⟨#[]⟩, .int .u64 0, .int .u64 0, .int .u64 0, .int .u64 0] (by decide) rfl
  rw [s2] at r3
  have b3 := below_box w2 (.cells #[.int .i64 4, .int .i64 0, .string ⟨#[97]⟩, .int .u64 0, .int .u64 0, .int .u64 0, .int .u64 0, .int .i64 4, .int .i64 0, .string ⟨#[98]⟩, .int .u64 0, .int .u64 0, .int .u64 0, .int .u64 0, .int .i64 9, .int .i64 0, .string ⟨#[]⟩, .int .u64 0, .int .u64 0, .int .u64 0, .int .u64 0, .int .i64 7, .int .i64 0, .string ⟨#[]⟩, .int .u64 0, .int .u64 0, .int .u64 0, .int .u64 0] 70)
  have s3 := World.size_alloc w2 (.cells #[.int .i64 4, .int .i64 0, .string ⟨#[97]⟩, .int .u64 0, .int .u64 0, .int .u64 0, .int .u64 0, .int .i64 4, .int .i64 0, .string ⟨#[98]⟩, .int .u64 0, .int .u64 0, .int .u64 0, .int .u64 0, .int .i64 9, .int .i64 0, .string ⟨#[]⟩, .int .u64 0, .int .u64 0, .int .u64 0, .int .u64 0, .int .i64 7, .int .i64 0, .string ⟨#[]⟩, .int .u64 0, .int .u64 0, .int .u64 0, .int .u64 0] 70)
  generalize w2.alloc (.cells #[.int .i64 4, .int .i64 0, .string ⟨#[97]⟩, .int .u64 0, .int .u64 0, .int .u64 0, .int .u64 0, .int .i64 4, .int .i64 0, .string ⟨#[98]⟩, .int .u64 0, .int .u64 0, .int .u64 0, .int .u64 0, .int .i64 9, .int .i64 0, .string ⟨#[]⟩, .int .u64 0, .int .u64 0, .int .u64 0, .int .u64 0, .int .i64 7, .int .i64 0, .string ⟨#[]⟩, .int .u64 0, .int .u64 0, .int .u64 0, .int .u64 0] 70) = w3 at r3 b3 s3 ⊢
  have hr : RB (w3.alloc (.cells #[.string ⟨#[115]⟩, .slice (some ⟨w.heap.size + 1 + 1, 0, none⟩) 4 4] 50)) w3.heap.size ⟨#[115]⟩ (.slice (some ⟨w.heap.size + 1 + 1, 0, none⟩) 4 4) := ⟨heap_alloc_new w3 _⟩
  have b4 := below_box w3 (.cells #[.string ⟨#[115]⟩, .slice (some ⟨w.heap.size + 1 + 1, 0, none⟩) 4 4] 50)
  have s4 := World.size_alloc w3 (.cells #[.string ⟨#[115]⟩, .slice (some ⟨w.heap.size + 1 + 1, 0, none⟩) 4 4] 50)
  generalize w3.alloc (.cells #[.string ⟨#[115]⟩, .slice (some ⟨w.heap.size + 1 + 1, 0, none⟩) 4 4] 50) = w4 at hr b4 s4 ⊢
  have e3 : w3.heap.size = w.heap.size + 1 + 1 + 1 := by omega
  rw [e3] at hr
  have g4 := gi_one2 (n := 4) (s := ⟨#[115]⟩) (M := exL) (by show 1 ≤ _; omega) rfl (by omega) ex_tx.1 (r3.below b4 (Nat.le_refl _)) hr
  have b5 := below_box w4 (.cells #[.slice (some ⟨w.heap.size + 1 + 1 + 1, 0, none⟩) 1 1] 24)
  have hb := b3.trans ((b4.trans (b5.mono b4.size)).mono b3.size)
  have e4 : w4.heap.size = w.heap.size + 1 + 1 + 1 + 1 := by rw [← e3]; exact s4
  refine ⟨g4.later b5, b2.trans (hb.mono b2.size), nx_later n1 hb, nx_later n2 hb, ?_⟩
  have h := GX.mk (heap_alloc_new w4 (.cells #[.slice (some ⟨w.heap.size + 1 + 1 + 1, 0, none⟩) 1 1] 24))
  rw [e4] at h
  exact h
/-- What is known, at a place. -/
structure FB (W : World) (g : Nat) (a : Fs) : Prop where
  lt : g < W.heap.size
  c0 : W.cell? ⟨g, 0, none⟩ = some (.int .u64 (wd a.st 0))
  c1 : W.cell? ⟨g, 1, none⟩ = some (.int .u64 (wd a.st 1))
  c2 : W.cell? ⟨g, 2, none⟩ = some (.int .u64 (wd a.st 2))
  c3 : W.cell? ⟨g, 3, none⟩ = some (.int .u64 (wd a.st 3))
  c4 : W.cell? ⟨g, 4, none⟩ = some (.bool a.em)
  c5 : W.cell? ⟨g, 5, none⟩ = some (.bool a.hf)
theorem FB.later {W W' : World} {g : Nat} {a : Fs} (h : FB W g a) (hb : Below W.heap.size W W') : FB W' g a := ⟨Nat.lt_of_lt_of_le h.lt hb.size, (hb.cell (p := ⟨g, 0, none⟩) h.lt).trans h.c0, (hb.cell (p := ⟨g, 1, none⟩) h.lt).trans h.c1, (hb.cell (p := ⟨g, 2, none⟩) h.lt).trans h.c2, (hb.cell (p := ⟨g, 3, none⟩) h.lt).trans h.c3, (hb.cell (p := ⟨g, 4, none⟩) h.lt).trans h.c4, (hb.cell (p := ⟨g, 5, none⟩) h.lt).trans h.c5⟩
theorem fb_of {W : World} {B g cap : Nat} {a : Fs} (h : W.ownsRow B 36 6 (.slice (some ⟨g, 0, none⟩) 1 cap) 1 (fsc [a])) : FB W g a := by
  obtain ⟨g2, o2, e2, hl, r0, r1, r2, r3, r4, r5⟩ := fs_read h [] [a] rfl 0 a rfl
  cases e2
  exact ⟨hl, r0, r1, r2, r3, r4, r5⟩
set_option maxRecDepth 100000 in
set_option maxHeartbeats 16000000 in
theorem works11_any (w : World) : Calls Tryz.prog 13 #[] w fun e w' => e = .returned (.bool true) ∧ Below w.heap.size w w' := by
  have HG := (show Hid _ from ex_gi w)
  have HR := (show Hid (∀ (W : World) (A : Option Addr) (c : Nat), GI W A exG → Calls Tryz.prog 7 #[.agg #[.slice A 1 c]] W fun e w' => (∃ g cap, e = .returned (.tuple #[.slice (some ⟨g, 0, none⟩) 1 cap, .int .i64 0]) ∧ Hid (FB w' g zL)) ∧ Below W.heap.size W w') from fun W A c hG => by
    have h := fsRules_any exG A c W hG (fun g hg => by rw [List.mem_singleton.1 hg]; exact ex_tx.2.2.1)
    rw [ex_ck] at h
    refine h.mono ?_
    rintro e w' ⟨⟨v, fs, rfl, hr, ho⟩, b⟩
    obtain ⟨now, _, _, hx⟩ := hr.1 ex_ck
    have e2 := ex_fs hx
    subst e2
    obtain ⟨g, cap, rfl, _, _⟩ := ho.form (by show 0 < 1; omega)
    exact ⟨⟨g, cap, rfl, fb_of ho⟩, b⟩)
  have HO := (show Hid (∀ (W : World) (A Ap : Option Addr) (c cp : Nat), GI W A exG → RdN W Ap exP → Calls Tryz.prog 15 #[.agg #[.slice A 1 c], .slice Ap 4 cp] W fun e w' => e = .returned (.tuple #[fG zP, .int .i64 0]) ∧ Below W.heap.size W w') from fun W A Ap c cp hG hP => by
    have h := fsOf_any exG A c exP Ap cp (by show 4 ≤ _; omega) ex_tx.2.1 ex_tx.2.2.2 W hG (fun g hg => by rw [List.mem_singleton.1 hg]; exact ex_tx.2.2.1) hP
    refine h.mono ?_
    rintro e w' ⟨⟨x, cd, rfl, hx⟩, b⟩
    obtain ⟨now, fs, _, _, _, hf⟩ := hx.2 ex_ck
    obtain ⟨rfl, hx2⟩ := (hf.2 ex_cp).2 (fun n hn h6 => by
      simp only [exP, List.mem_cons, List.not_mem_nil, or_false] at hn
      rcases hn with rfl | rfl | rfl | rfl <;> exact absurd h6 (by decide))
    rw [hx2, show exP.length - 1 = 3 from rfl, ex_P]
    exact ⟨rfl, b⟩)
  have HF := (show Hid (∀ W, Calls Tryz.prog 26 #[.string ⟨#[97]⟩] W (fun e w' => e = .returned (.agg #[.int .u64 (wd zL.st 0), .int .u64 (wd zL.st 1), .int .u64 (wd zL.st 2), .int .u64 (wd zL.st 3)]) ∧ Below W.heap.size W w') ∧ Calls Tryz.prog 26 #[.string ⟨#[97, 98]⟩] W (fun e w' => e = .returned (.agg #[.int .u64 (wd zP.st 0), .int .u64 (wd zP.st 1), .int .u64 (wd zP.st 2), .int .u64 (wd zP.st 3)]) ∧ Below W.heap.size W w')) from fun W => ⟨Go.Proofs.YtbnihflihelimaaGreat.of_any ⟨#[97]⟩ W (by decide), Go.Proofs.YtbnihflihelimaaGreat.of_any ⟨#[97, 98]⟩ W (by decide)⟩)
  go_enter Tryz.func13, Tryz.ntmps13
  go_wp2_with fail
  refine (HR.out _ _ _ HG.out.1).mono ?_
  rintro e w6 ⟨⟨g, cap, rfl, hf⟩, b6⟩
  have hG6 := HG.out.1.later b6
  have hb6 := HG.out.2.1.trans (b6.mono HG.out.2.1.size)
  have n1 := nx_later HG.out.2.2.1 b6
  have n2 := nx_later HG.out.2.2.2.1 b6
  have g6 := (HG.out.2.2.2.2.below b6).cl
  obtain ⟨w7, hw7⟩ : ∃ w7, w7 = w6.alloc (.cells #[.int .i64 4, .int .i64 0, .string ⟨#[97]⟩, .int .u64 0, .int .u64 0, .int .u64 0, .int .u64 0, .int .i64 9, .int .i64 0, .string ⟨#[]⟩, .int .u64 0, .int .u64 0, .int .u64 0, .int .u64 0, .int .i64 4, .int .i64 0, .string ⟨#[98]⟩, .int .u64 0, .int .u64 0, .int .u64 0, .int .u64 0, .int .i64 7, .int .i64 0, .string ⟨#[]⟩, .int .u64 0, .int .u64 0, .int .u64 0, .int .u64 0] 70) := ⟨_, rfl⟩
  have HE7 := (show Hid (w6.alloc (.cells #[.int .i64 4, .int .i64 0, .string ⟨#[97]⟩, .int .u64 0, .int .u64 0, .int .u64 0, .int .u64 0, .int .i64 9, .int .i64 0, .string ⟨#[]⟩, .int .u64 0, .int .u64 0, .int .u64 0, .int .u64 0, .int .i64 4, .int .i64 0, .string ⟨#[98]⟩, .int .u64 0, .int .u64 0, .int .u64 0, .int .u64 0, .int .i64 7, .int .i64 0, .string ⟨#[]⟩, .int .u64 0, .int .u64 0, .int .u64 0, .int .u64 0] 70) = w7) from hw7.symm)
  have b7 : Below w6.heap.size w6 w7 := by rw [hw7]; exact below_box _ _
  have HO7 := (show Hid (Calls Tryz.prog 15 #[.agg #[.slice (some ⟨w.heap.size + 1 + 1 + 1, 0, none⟩) 1 1], .slice (some ⟨w6.heap.size, 0, none⟩) 4 4] w7 fun e w' => e = .returned (.tuple #[fG zP, .int .i64 0]) ∧ Below w7.heap.size w7 w') from HO.out w7 _ _ 1 4 (hG6.later b7) (by rw [hw7]; exact rd_lit w6 exP #[.int .i64 4, .int .i64 0, .string ⟨#[97]⟩, .int .u64 0, .int .u64 0, .int .u64 0, .int .u64 0, .int .i64 9, .int .i64 0, .string ⟨#[]⟩, .int .u64 0, .int .u64 0, .int .u64 0, .int .u64 0, .int .i64 4, .int .i64 0, .string ⟨#[98]⟩, .int .u64 0, .int .u64 0, .int .u64 0, .int .u64 0, .int .i64 7, .int .i64 0, .string ⟨#[]⟩, .int .u64 0, .int .u64 0, .int .u64 0, .int .u64 0] (by decide) rfl))
  have HF6 := (show Hid (FB w7 g zL ∧ Below w.heap.size w w7) from ⟨hf.out.later b7, hb6.trans (b7.mono hb6.size)⟩)
  have x0 : w6.cell? ⟨w.heap.size, 0, none⟩ = some (.int .i64 4) := by rw [cell_of_row w6 _ 0 _ 70 (0, 0) n1.heap]; rfl
  have x1 : w6.cell? ⟨w.heap.size, 1, none⟩ = some (.int .i64 0) := by rw [cell_of_row w6 _ 1 _ 70 (0, 0) n1.heap]; rfl
  have x2 : w6.cell? ⟨w.heap.size, 2, none⟩ = some (.string ⟨#[97]⟩) := by rw [cell_of_row w6 _ 2 _ 70 (0, 0) n1.heap]; rfl
  have x3 : w6.cell? ⟨w.heap.size, 3, none⟩ = some (.int .u64 0) := by rw [cell_of_row w6 _ 3 _ 70 (0, 0) n1.heap]; rfl
  have x4 : w6.cell? ⟨w.heap.size, 4, none⟩ = some (.int .u64 0) := by rw [cell_of_row w6 _ 4 _ 70 (0, 0) n1.heap]; rfl
  have x5 : w6.cell? ⟨w.heap.size, 5, none⟩ = some (.int .u64 0) := by rw [cell_of_row w6 _ 5 _ 70 (0, 0) n1.heap]; rfl
  have x6 : w6.cell? ⟨w.heap.size, 6, none⟩ = some (.int .u64 0) := by rw [cell_of_row w6 _ 6 _ 70 (0, 0) n1.heap]; rfl
  have y0 : w6.cell? ⟨w.heap.size + 1, 0, none⟩ = some (.int .i64 4) := by rw [cell_of_row w6 _ 0 _ 70 (0, 0) n2.heap]; rfl
  have y1 : w6.cell? ⟨w.heap.size + 1, 1, none⟩ = some (.int .i64 0) := by rw [cell_of_row w6 _ 1 _ 70 (0, 0) n2.heap]; rfl
  have y2 : w6.cell? ⟨w.heap.size + 1, 2, none⟩ = some (.string ⟨#[98]⟩) := by rw [cell_of_row w6 _ 2 _ 70 (0, 0) n2.heap]; rfl
  have y3 : w6.cell? ⟨w.heap.size + 1, 3, none⟩ = some (.int .u64 0) := by rw [cell_of_row w6 _ 3 _ 70 (0, 0) n2.heap]; rfl
  have y4 : w6.cell? ⟨w.heap.size + 1, 4, none⟩ = some (.int .u64 0) := by rw [cell_of_row w6 _ 4 _ 70 (0, 0) n2.heap]; rfl
  have y5 : w6.cell? ⟨w.heap.size + 1, 5, none⟩ = some (.int .u64 0) := by rw [cell_of_row w6 _ 5 _ 70 (0, 0) n2.heap]; rfl
  have y6 : w6.cell? ⟨w.heap.size + 1, 6, none⟩ = some (.int .u64 0) := by rw [cell_of_row w6 _ 6 _ 70 (0, 0) n2.heap]; rfl
  clear hf b6 hG6 hb6 n1 n2 hw7 b7 HR HO HG
  go_wp2_with (rw [HE7.out])
  refine HO7.out.mono ?_
  rintro e w8 ⟨rfl, b8⟩
  obtain ⟨w9, hw9⟩ : ∃ w9, w9 = w8.alloc (.cells #[.int .u64 (wd zP.st 0), .int .u64 (wd zP.st 1), .int .u64 (wd zP.st 2), .int .u64 (wd zP.st 3), .bool zP.em, .bool zP.hf] 36) := ⟨_, rfl⟩
  have HE9 := (show Hid (w8.alloc (.cells #[.int .u64 (wd zP.st 0), .int .u64 (wd zP.st 1), .int .u64 (wd zP.st 2), .int .u64 (wd zP.st 3), .bool zP.em, .bool zP.hf] 36) = w9) from hw9.symm)
  have HF9 := (show Hid (FB w9 g zL ∧ FX w9 w8.heap.size zP ∧ Below w.heap.size w w9) from by
    have b9 : Below w8.heap.size w8 w9 := by rw [hw9]; exact below_box _ _
    have hb := b8.trans (b9.mono b8.size)
    exact ⟨HF6.out.1.later hb, by rw [hw9]; exact FX.new w8 zP, HF6.out.2.trans (hb.mono HF6.out.2.size)⟩)
  go_wp2_with (rw [HE9.out])
  generalize w8.heap.size = kf at HF9 ⊢
  have HKe := (show Hid (∀ W, Below w9.heap.size w9 W → (fun W => W.cell? ⟨g, 0, none⟩ = some (.int .u64 (wd zL.st 0)) ∧ W.cell? ⟨g, 1, none⟩ = some (.int .u64 (wd zL.st 1)) ∧ W.cell? ⟨g, 2, none⟩ = some (.int .u64 (wd zL.st 2)) ∧ W.cell? ⟨g, 3, none⟩ = some (.int .u64 (wd zL.st 3)) ∧ W.cell? ⟨g, 4, none⟩ = some (.bool false) ∧ W.cell? ⟨g, 5, none⟩ = some (.bool true) ∧ W.cell? ⟨kf, 0, none⟩ = some (.int .u64 (wd zP.st 0)) ∧ W.cell? ⟨kf, 1, none⟩ = some (.int .u64 (wd zP.st 1)) ∧ W.cell? ⟨kf, 2, none⟩ = some (.int .u64 (wd zP.st 2)) ∧ W.cell? ⟨kf, 3, none⟩ = some (.int .u64 (wd zP.st 3)) ∧ W.cell? ⟨kf, 4, none⟩ = some (.bool false) ∧ W.cell? ⟨kf, 5, none⟩ = some (.bool false)) W) from fun W hW => by
    have h1 := HF9.out.1.later hW
    have h2 := HF9.out.2.1.below hW
    exact ⟨h1.c0, h1.c1, h1.c2, h1.c3, h1.c4, h1.c5, h2.c0, h2.c1, h2.c2, h2.c3, h2.c4, h2.c5⟩)
  have HC1 := (show Hid (∀ W, Below w9.heap.size w9 W → Calls Tryz.prog 26 #[.string ⟨#[97]⟩] W (fun e w' => e = .returned (.agg #[.int .u64 (wd zL.st 0), .int .u64 (wd zL.st 1), .int .u64 (wd zL.st 2), .int .u64 (wd zL.st 3)]) ∧ Below w9.heap.size w9 w')) from fun W hW => ((HF.out W).1).mono fun e w' h => ⟨h.1, hW.trans (h.2.mono hW.size)⟩)
  have HC2 := (show Hid (∀ W, Below w9.heap.size w9 W → Calls Tryz.prog 26 #[.string ⟨#[97, 98]⟩] W (fun e w' => e = .returned (.agg #[.int .u64 (wd zP.st 0), .int .u64 (wd zP.st 1), .int .u64 (wd zP.st 2), .int .u64 (wd zP.st 3)]) ∧ Below w9.heap.size w9 w')) from fun W hW => ((HF.out W).2).mono fun e w' h => ⟨h.1, hW.trans (h.2.mono hW.size)⟩)
  have HBw := (show Hid (Below w.heap.size w w9) from HF9.out.2.2)
  have h1 : ∀ W, (binOp .eql 36 (.agg #[.int .u64 (wd zL.st 0), .int .u64 (wd zL.st 1), .int .u64 (wd zL.st 2), .int .u64 (wd zL.st 3), .bool false, .bool true]) (.agg #[.int .u64 (wd zL.st 0), .int .u64 (wd zL.st 1), .int .u64 (wd zL.st 2), .int .u64 (wd zL.st 3), .bool false, .bool true])).run Tryz.prog W = .ok (.bool true) W := fun W => by
    have h := fs_eql zL zL W
    rw [(feB_iff _ _).2 rfl] at h
    exact h
  have h2 : ∀ W, (binOp .eql 36 (.agg #[.int .u64 (wd zP.st 0), .int .u64 (wd zP.st 1), .int .u64 (wd zP.st 2), .int .u64 (wd zP.st 3), .bool false, .bool false]) (.agg #[.int .u64 (wd zP.st 0), .int .u64 (wd zP.st 1), .int .u64 (wd zP.st 2), .int .u64 (wd zP.st 3), .bool false, .bool false])).run Tryz.prog W = .ok (.bool true) W := fun W => by
    have h := fs_eql zP zP W
    rw [(feB_iff _ _).2 rfl] at h
    exact h
  have hS := HKe.out w9 (Below.refl _ _)
  obtain ⟨a0, a1, a2, a3, a4, a5, c0, c1, c2, c3, c4, c5⟩ := hS
  clear hw9 b8 HO7 HE7 HF6 HE9 HF x0 x1 x2 x3 x4 x5 x6 y0 y1 y2 y3 y4 y5 y6 g6 HF9
  go_region_held3 (fun W => W.cell? ⟨g, 0, none⟩ = some (.int .u64 (wd zL.st 0)) ∧ W.cell? ⟨g, 1, none⟩ = some (.int .u64 (wd zL.st 1)) ∧ W.cell? ⟨g, 2, none⟩ = some (.int .u64 (wd zL.st 2)) ∧ W.cell? ⟨g, 3, none⟩ = some (.int .u64 (wd zL.st 3)) ∧ W.cell? ⟨g, 4, none⟩ = some (.bool false) ∧ W.cell? ⟨g, 5, none⟩ = some (.bool true) ∧ W.cell? ⟨kf, 0, none⟩ = some (.int .u64 (wd zP.st 0)) ∧ W.cell? ⟨kf, 1, none⟩ = some (.int .u64 (wd zP.st 1)) ∧ W.cell? ⟨kf, 2, none⟩ = some (.int .u64 (wd zP.st 2)) ∧ W.cell? ⟨kf, 3, none⟩ = some (.int .u64 (wd zP.st 3)) ∧ W.cell? ⟨kf, 4, none⟩ = some (.bool false) ∧ W.cell? ⟨kf, 5, none⟩ = some (.bool false)) (first | go_keep | exact HKe.out _ bA | exact HKe.out _ bB) (first | (go_at_call 26; with_reducible refine (HC1.out _ (Below.refl _ _).drew).mono ?_; rintro e wA ⟨rfl, bA⟩) | (go_at_call 26; with_reducible refine (HC2.out _ bA).mono ?_; rintro e wB ⟨rfl, bB⟩))
  all_goals
    rename_i hHeld
    clear hHeld
    go_wp2_with fail
    go_ret
    exact ⟨rfl, HBw.out.trans (bB.mono HBw.out.size)⟩
end Go.Proofs.YtbnihflihelimaaGreat.N
