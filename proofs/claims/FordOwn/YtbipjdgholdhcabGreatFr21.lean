/- FordOwn (R4): of any grammar and any number, what the program answers (cycles, heads, orders) is the caller's own: what is written into it, and behind it, changes no later answer and not the grammar; for grammars within the reach of the form. -/
import Derived.Laws.OwnMore
import Derived.Test.YtbipjdgholdhcabGreatRows
import Derived.Test.YtbipjdgholdhcabGreatFr20
namespace Go.Proofs.YtbipjdgholdhcabGreat.N
open Go.RowKit Go.Maps
open Go.Proofs.YtbipjdgholdhcabGreat.T

open U (own_get own_slice below_grown)
/-- What Heads answers. -/
def hdv (gs : GL) (now : List Em) (i : Int) : List Nat × Int := if (ckG gs).2 = 0 then (if i < 0 ∨ (gs.length : Int) ≤ i then ([], 1) else (hdl gs.length (hdM gs (nbE now)) i.toNat, 0)) else ([], (ckG gs).2)
theorem hd_val {gs : GL} {now : List Em} {B : Nat} {w' : World} {i : Int} {e : Ending} (h : HdD gs now B w' i e) : ∃ (A1 : Option Addr) (c1 : Nat), e = .returned (.tuple #[.slice A1 (hdv gs now i).1.length c1, .int .i64 (hdv gs now i).2]) ∧ w'.ownsRow B 3 1 (.slice A1 (hdv gs now i).1.length c1) (hdv gs now i).1.length ((hdv gs now i).1.map U.nI) := by
  unfold hdv
  by_cases hz : (ckG gs).2 = 0
  · rw [if_pos hz]
    by_cases hi : i < 0 ∨ (gs.length : Int) ≤ i
    · rw [if_pos hi, (h.2 hz).1 hi]
      exact ⟨none, 0, rfl, World.ownsRow_nil _ _ _ _⟩
    · rw [if_neg hi]
      obtain ⟨v, rfl, ho⟩ := (h.2 hz).2 i.toNat (by omega) (by omega)
      obtain ⟨A1, c1, rfl⟩ := own_slice ho
      exact ⟨A1, c1, rfl, ho⟩
  · rw [if_neg hz, h.1 hz]
    exact ⟨none, 0, rfl, World.ownsRow_nil _ _ _ _⟩
theorem hdv_len {gs : GL} {now : List Em} {i : Int} : (hdv gs now i).1.length ≤ 200 := by
  unfold hdv
  by_cases hz : (ckG gs).2 = 0
  · rw [if_pos hz]
    by_cases hi : i < 0 ∨ (gs.length : Int) ≤ i
    · rw [if_pos hi]; exact Nat.zero_le _
    · rw [if_neg hi]
      have h := List.length_filter_le (hdM gs (nbE now) i.toNat) (List.range gs.length)
      rw [List.length_range] at h
      exact Nat.le_trans h (ckG_ok.1 hz).n2
  · rw [if_neg hz]; exact Nat.zero_le _
/-- What Loops answers. -/
def lov (gs : GL) (now : List Em) : List (Nat × Nat) × Int := if (ckG gs).2 = 0 then (lpG gs (nbE now) gs.length, 0) else ([], (ckG gs).2)
theorem lo_val {gs : GL} {now : List Em} {B : Nat} {w' : World} {e : Ending} (h : LoDR gs now B w' e) : ∃ (A1 : Option Addr) (c1 : Nat), e = .returned (.tuple #[.slice A1 (lov gs now).1.length c1, .int .i64 (lov gs now).2]) ∧ w'.ownsRow B 31 2 (.slice A1 (lov gs now).1.length c1) (lov gs now).1.length (spc (lov gs now).1) := by
  unfold lov
  by_cases hz : (ckG gs).2 = 0
  · rw [if_pos hz]
    obtain ⟨v, rfl, ho⟩ := h.2 hz
    obtain ⟨A1, c1, rfl⟩ := own_fs ho
    exact ⟨A1, c1, rfl, ho⟩
  · rw [if_neg hz, h.1 hz]
    exact ⟨none, 0, rfl, World.ownsRow_nil _ _ _ _⟩
theorem lov_len {gs : GL} {now : List Em} : (lov gs now).1.length ≤ 1000000 := by
  unfold lov
  by_cases hz : (ckG gs).2 = 0
  · rw [if_pos hz]
    have hR := ckG_ok.1 hz
    have h := lpG_len (nb := nbE now) (fun g hg => (rt_facts hR hg).2.2.2.2) gs.length
    have : gs.length * 2048 ≤ 200 * 2048 := Nat.mul_le_mul_right _ hR.n2
    show (lpG gs (nbE now) gs.length).length ≤ _
    omega
  · rw [if_neg hz]; exact Nat.zero_le _
theorem lo_doc {gs : GL} {w w' : World} {e : Ending} (h : LoR gs w w' e) : ∃ now, ((ckG gs).2 = 0 → KnF gs now ∧ now.length = gs.length) ∧ LoDR gs now w.heap.size w' e := by
  by_cases hz : (ckG gs).2 = 0
  · obtain ⟨now, v, h1, h2, h3, h4⟩ := h.2 hz
    exact ⟨now, fun _ => ⟨h1, h2⟩, fun q => absurd hz q, fun _ => ⟨v, h3, h4⟩⟩
  · exact ⟨[], fun q => absurd q hz, h.1, fun q => absurd q hz⟩

set_option maxRecDepth 100000 in
set_option maxHeartbeats 16000000 in
/-- Heads, by the program. -/
theorem fheads_now (gs : GL) (A : Option Addr) (c : Nat) (i : Int) (w : World) (hp : GI w A gs) :
    Calls Tryz.prog 11 #[.agg #[.slice A gs.length c], .int .i64 i] w fun e w' => (∃ now, ((ckG gs).2 = 0 → KnF gs now ∧ now.length = gs.length) ∧ HdD gs now w.heap.size w' i e) ∧ Below w.heap.size w w' := by
  obtain ⟨w1, hw1⟩ : ∃ w1, w1 = w.alloc (.cells #[.slice A gs.length c] 24) := ⟨_, rfl⟩
  have HE1 := (show Hid (w.alloc (.cells #[.slice A gs.length c] 24) = w1) from hw1.symm)
  have HS := (show Hid (Below w.heap.size w w1 ∧ GX w1 w.heap.size (.slice A gs.length c)) from by rw [hw1]; exact ⟨below_box _ _, GX.mk (heap_alloc_new w _)⟩)
  have HVw := (show Hid (∀ _ : Unit, Calls Tryz.prog 23 #[.agg #[.slice A gs.length c]] w1 fun e w' => VwR w1 w' gs A c e ∧ Below w1.heap.size w1 w') from fun _ => viewOf_any gs A c w1 (hp.later HS.out.1))
  have HP := (show Hid (GI w A gs) from hp)
  have q1 := HS.out.2.cl
  clear hw1 hp
  go_enter Tryz.func11, Tryz.ntmps11
  go_wp2_with (rw [HE1.out])
  refine (HVw.out ()).mono ?_
  rintro e w2 ⟨hvw, b2⟩
  have HS2 := (show Hid (Below w.heap.size w w2 ∧ GX w2 w.heap.size (.slice A gs.length c)) from ⟨HS.out.1.trans (b2.mono HS.out.1.size), HS.out.2.below b2⟩)
  clear HVw HE1 q1 HS b2
  by_cases hz : (ckG gs).2 = 0
  · obtain ⟨mb, Ak, ck, now, rfl, hm, hk, hkf, hnl, hok, _⟩ := hvw.2 hz
    have hR := ckG_ok.1 hz
    have hn2 := hR.n2
    obtain ⟨w3, hw3⟩ : ∃ w3, w3 = w2.alloc (.cells #[.slice A gs.length c, .map (some mb), .slice Ak gs.length ck] 66) := ⟨_, rfl⟩
    have HE3 := (show Hid (w2.alloc (.cells #[.slice A gs.length c, .map (some mb), .slice Ak gs.length ck] 66) = w3) from hw3.symm)
    have hb3 : Below w2.heap.size w2 w3 := by rw [hw3]; exact below_box _ _
    have HX3 := (show Hid (VX w3 w2.heap.size (.slice A gs.length c) (.map (some mb)) (.slice Ak gs.length ck)) from by rw [hw3]; exact VX.new w2 _ _ _)
    have HB3 := (show Hid (Below w.heap.size w w3) from HS2.out.1.trans (hb3.mono HS2.out.1.size))
    have HV := (show Hid (VwO w3 gs A mb Ak now) from ⟨hR, HP.out.later HB3.out, hm.later hb3, hk.later hb3, hnl⟩)
    have HKn := (show Hid (KnF gs now ∧ now.length = gs.length ∧ (ckG gs).2 = 0) from ⟨hkf, hnl, hz⟩)
    have y0 := HX3.out.c0
    have y1 := HX3.out.c1
    have y2 := HX3.out.c2
    have q3 := (HS2.out.2.below hb3).cl
    clear hvw hm hk hkf hnl hok hz hR hw3 hb3 HX3 HS2 HP
    by_cases h0 : i < 0
    · have HI := (show Hid (i < 0) from h0)
      go_wp2_with (rw [HE3.out])
      refine bodyPost_ret (v := .tuple #[.slice none 0 0, .int .i64 1]) (by simp [results, Tryz.results11, go_sem]) rfl ?_
      exact ⟨⟨now, fun _ => ⟨HKn.out.1, HKn.out.2.1⟩, fun q => absurd HKn.out.2.2 q, fun _ => ⟨fun _ => rfl, fun r e1 _ => by have := HI.out; omega⟩⟩, HB3.out⟩
    · obtain ⟨r, rfl⟩ : ∃ r : Nat, i = (r : Int) := ⟨i.toNat, by omega⟩
      by_cases h1 : r < gs.length
      · have h2 : ¬ (gs.length : Int) ≤ (r : Int) := by omega
        obtain ⟨g, hg⟩ : ∃ g, gs[r]? = some g := ⟨_, List.getElem?_eq_getElem h1⟩
        have HI := (show Hid (r < gs.length) from h1)
        have HHe := (show Hid (∀ _ : Unit, Calls Tryz.prog 24 #[.agg #[.slice A gs.length c, .map (some mb), .slice Ak gs.length ck], .int .i64 (r : Int)] w3 fun e w' => (∃ v, e = .returned v ∧ w'.ownsRow w3.heap.size 3 1 v (hdl gs.length (hdM gs (nbE now)) r).length ((hdl gs.length (hdM gs (nbE now)) r).map U.nI)) ∧ Below w3.heap.size w3 w') from fun _ => headsOf_any mb A Ak c ck hg w3 HV.out)
        clear hg
        go_wp2_with (rw [HE3.out])
        refine (HHe.out ()).mono ?_
        rintro e w4 ⟨⟨v, rfl, ho⟩, b4⟩
        have HF := (show Hid (w4.ownsRow w.heap.size 3 1 v (hdl gs.length (hdM gs (nbE now)) r).length ((hdl gs.length (hdM gs (nbE now)) r).map U.nI) ∧ Below w.heap.size w w4) from ⟨own_base ho HB3.out.size, HB3.out.trans (b4.mono HB3.out.size)⟩)
        clear ho b4 HHe HE3 y0 y1 y2 q3
        go_wp2_with fail
        refine bodyPost_ret (v := .tuple #[v, .int .i64 0]) (by simp [results, Tryz.results11, go_sem]) rfl ?_
        exact ⟨⟨now, fun _ => ⟨HKn.out.1, HKn.out.2.1⟩, fun q => absurd HKn.out.2.2 q, fun _ => ⟨fun q => by have := HI.out; omega, fun r2 e1 _ => by
          have e2 : r = r2 := by omega
          subst e2
          exact ⟨v, rfl, HF.out.1⟩⟩⟩, HF.out.2⟩
      · have h2 : (gs.length : Int) ≤ (r : Int) := by omega
        have HI := (show Hid (¬ r < gs.length) from h1)
        go_wp2_with (rw [HE3.out])
        refine bodyPost_ret (v := .tuple #[.slice none 0 0, .int .i64 1]) (by simp [results, Tryz.results11, go_sem]) rfl ?_
        exact ⟨⟨now, fun _ => ⟨HKn.out.1, HKn.out.2.1⟩, fun q => absurd HKn.out.2.2 q, fun _ => ⟨fun _ => rfl, fun r2 e1 h3 => by have := HI.out; omega⟩⟩, HB3.out⟩
  · have e1 := hvw.1 hz
    subst e1
    have tz : ((ckG gs).2 != 0) = true := by rw [bne, beq_eq_false_iff_ne.2 hz]; rfl
    have HZ := (show Hid ((ckG gs).2 ≠ 0) from hz)
    obtain ⟨w3, hw3⟩ : ∃ w3, w3 = w2.alloc (.cells #[.slice none 0 0, .map none, .slice none 0 0] 66) := ⟨_, rfl⟩
    have HE3 := (show Hid (w2.alloc (.cells #[.slice none 0 0, .map none, .slice none 0 0] 66) = w3) from hw3.symm)
    have HB3 := (show Hid (Below w.heap.size w w3) from by rw [hw3]; exact HS2.out.1.trans ((below_box _ _).mono HS2.out.1.size))
    clear hvw hz hw3 HS2 HP
    go_wp2_with fail
    rw [HE3.out]
    refine bodyPost_ret (v := .tuple #[.slice none 0 0, .int .i64 (ckG gs).2]) (by simp [results, Tryz.results11, go_sem]) rfl ?_
    exact ⟨⟨[], fun q => absurd q HZ.out, fun _ => rfl, fun q => absurd q HZ.out⟩, HB3.out⟩

set_option maxRecDepth 100000 in
set_option maxHeartbeats 32000000 in
theorem heads_law (gs : GL) (A : Option Addr) (c : Nat) (i : Int) (w : World) (hg : GrIn w A c gs) : Calls Tryz.prog 14 #[.agg #[.slice A gs.length c], .int .i64 i] w fun e w' => e = .returned (.bool true) ∧ Below w.heap.size w w' := by
  have hl := hg.len
  obtain ⟨w0, hw0⟩ : ∃ w0, w0 = w.alloc (.cells #[.slice A gs.length c] 24) := ⟨_, rfl⟩
  have hb0 : Below w.heap.size w w0 := by rw [hw0]; exact below_box w _
  have HX0 := (show Hid (GX w0 w.heap.size (.slice A gs.length c)) from by rw [hw0]; exact GX.mk (heap_alloc_new w _))
  have HE0 := (show Hid (w.alloc (.cells #[.slice A gs.length c] 24) = w0) from hw0.symm)
  have hg0 : GrIn w0 A c gs := hg.later hb0
  have HLe : Hid (∀ _ : Unit, Calls Tryz.prog 9 #[.agg #[.slice A gs.length c]] w0 fun e w' => ∃ g cap ov, e = .returned (.agg #[.slice (some ⟨g, 0, none⟩) gs.length cap]) ∧ ov.map (·.1) = gs ∧ LgB w0 w' g cap ov) := fun _ => lendG_any gs A c w0 hg0
  have HK : Hid (∀ (w' : World) (g cap : Nat) (ov : List Le), ov.map (·.1) = gs → LgB w0 w' g cap ov → GrD w' A gs → Calls Tryz.prog 16 #[.agg #[.slice (some ⟨g, 0, none⟩) gs.length cap], .agg #[.slice A gs.length c]] w' fun e w'' => e = .returned (.bool true) ∧ Below w'.heap.size w' w'') := fun w' g cap ov h0 h1 h2 => keptG_any h0 (fun r hr => by
    obtain ⟨k, hk⟩ := List.getElem?_of_mem hr
    obtain ⟨_, _, h6, _⟩ := hg.each k r hk
    exact h6.2.2.2.1) hl h1 h2
  have HWk := (show Hid (∀ W, Calls Tryz.prog 6 #[] W fun e w' => e = .returned (.bool true) ∧ Below W.heap.size W w') from lives_any)
  have HP := (show Hid (GI w0 A gs) from hg0.gi)
  have HB0 := (show Hid (Below w.heap.size w w0) from hb0)
  have x0 := HX0.out.cl
  have HA : Hid (∀ (w' : World) (Ap : Option Addr) (cp : Nat), GI w' Ap gs → Calls Tryz.prog 11 #[.agg #[.slice Ap gs.length cp], .int .i64 i] w' fun e w'' => (∃ (A1 : Option Addr) (c1 : Nat) (now : List Em), e = .returned (.tuple #[.slice A1 (hdv gs now i).1.length c1, .int .i64 (hdv gs now i).2]) ∧ Hid ((ckG gs).2 = 0 → KnF gs now ∧ now.length = gs.length) ∧ w''.ownsRow w'.heap.size 3 1 (.slice A1 (hdv gs now i).1.length c1) (hdv gs now i).1.length ((hdv gs now i).1.map U.nI)) ∧ Below w'.heap.size w' w'') := fun w' Ap cp h => by
    refine (fheads_now gs Ap cp i w' h).mono ?_
    rintro e w'' ⟨⟨now, hk, hd⟩, b⟩
    obtain ⟨A1, c1, rfl, ho⟩ := hd_val hd
    exact ⟨⟨A1, c1, now, rfl, hk, ho⟩, b⟩
  have HD : Hid (∀ (now : List Em), Hid ((ckG gs).2 = 0 → KnF gs now ∧ now.length = gs.length) → ∀ (w' : World) (Ap : Option Addr) (cp : Nat), GI w' Ap gs → Calls Tryz.prog 27 #[.agg #[.slice Ap gs.length cp], .int .i64 i] w' fun e w'' => (∃ (A1 : Option Addr) (c1 : Nat), e = .returned (.tuple #[.slice A1 (hdv gs now i).1.length c1, .int .i64 (hdv gs now i).2]) ∧ w''.ownsRow w'.heap.size 3 1 (.slice A1 (hdv gs now i).1.length c1) (hdv gs now i).1.length ((hdv gs now i).1.map U.nI)) ∧ Below w'.heap.size w' w'') := fun now hk w' Ap cp h => by
    refine (headsD10_any hk.out Ap cp i w' h).mono ?_
    rintro e w'' ⟨hd, b⟩
    obtain ⟨A1, c1, rfl, ho⟩ := hd_val hd
    exact ⟨⟨A1, c1, rfl, ho⟩, b⟩
  have LA : Hid (∀ (w' : World) (Ap : Option Addr) (cp : Nat), GI w' Ap gs → Calls Tryz.prog 28 #[.agg #[.slice Ap gs.length cp]] w' fun e w'' => (∃ (A1 : Option Addr) (c1 : Nat) (now : List Em), e = .returned (.tuple #[.slice A1 (lov gs now).1.length c1, .int .i64 (lov gs now).2]) ∧ Hid ((ckG gs).2 = 0 → KnF gs now ∧ now.length = gs.length) ∧ w''.ownsRow w'.heap.size 31 2 (.slice A1 (lov gs now).1.length c1) (lov gs now).1.length (spc (lov gs now).1)) ∧ Below w'.heap.size w' w'') := fun w' Ap cp h => by
    refine (floops_any gs Ap cp w' h).mono ?_
    rintro e w'' ⟨hd, b⟩
    obtain ⟨now, hk, hd⟩ := lo_doc hd
    obtain ⟨A1, c1, rfl, ho⟩ := lo_val hd
    exact ⟨⟨A1, c1, now, rfl, hk, ho⟩, b⟩
  have LD : Hid (∀ (now : List Em), Hid ((ckG gs).2 = 0 → KnF gs now ∧ now.length = gs.length) → ∀ (w' : World) (Ap : Option Addr) (cp : Nat), GI w' Ap gs → Calls Tryz.prog 29 #[.agg #[.slice Ap gs.length cp]] w' fun e w'' => (∃ (A1 : Option Addr) (c1 : Nat), e = .returned (.tuple #[.slice A1 (lov gs now).1.length c1, .int .i64 (lov gs now).2]) ∧ w''.ownsRow w'.heap.size 31 2 (.slice A1 (lov gs now).1.length c1) (lov gs now).1.length (spc (lov gs now).1)) ∧ Below w'.heap.size w' w'') := fun now hk w' Ap cp h => by
    refine (loopsD10_any hk.out Ap cp w' h).mono ?_
    rintro e w'' ⟨hd, b⟩
    obtain ⟨A1, c1, rfl, ho⟩ := lo_val hd
    exact ⟨⟨A1, c1, rfl, ho⟩, b⟩
  clear hg hl hg0 hw0 hb0
  go_enter Tryz.func14, Tryz.ntmps14
  go_wp2_with (rw [HE0.out])
  refine (HLe.out ()).mono ?_
  rintro e w1 ⟨g, cap, ov, rfl, hm, ho⟩
  have HM := (show Hid (ov.map (·.1) = gs) from hm)
  obtain ⟨w2, hw2⟩ : ∃ w2, w2 = w1.alloc (.cells #[.slice (some ⟨g, 0, none⟩) gs.length cap] 24) := ⟨_, rfl⟩
  have HE2 := (show Hid (w1.alloc (.cells #[.slice (some ⟨g, 0, none⟩) gs.length cap] 24) = w2) from hw2.symm)
  have HS2 := (show Hid (LyS w0 w2 w.heap.size w1.heap.size (.slice A gs.length c) (.slice (some ⟨g, 0, none⟩) gs.length cap) g cap ov) from by
    have hb : Below w1.heap.size w1 w2 := by rw [hw2]; exact below_box w1 _
    have hX1 : GX w1 w.heap.size (.slice A gs.length c) := HX0.out.same (ho.b.block _ HX0.out.lt)
    exact ⟨ho.later hb, hX1.below hb, by rw [hw2]; exact GX.mk (heap_alloc_new w1 _)⟩)
  have y1 := HS2.out.x1.cl
  have y2 := HS2.out.x2.cl
  have HIn := (show Hid (∀ W, LyS w0 W w.heap.size w1.heap.size (.slice A gs.length c) (.slice (some ⟨g, 0, none⟩) gs.length cap) g cap ov → GI W (some ⟨g, 0, none⟩) gs ∧ GI W A gs) from fun W h => ⟨⟨h.l.gr HM.out, HP.out.l, HP.out.t⟩, HP.out.later h.l.b⟩)
  clear ho hm HLe hw2 x0 HX0
  go_wp2_with (rw [HE2.out])
  generalize w1.heap.size = k1 at *
  refine (HA.out w2 _ _ (HIn.out _ HS2.out).1).mono ?_
  rintro e w3 ⟨⟨A1, c1, now, rfl, HKn, ho1⟩, b3⟩
  have HD1 := hid_of (HD.out now HKn)
  have HL1 := (show Hid ((hdv gs now i).1.length ≤ 1000000) from Nat.le_trans hdv_len (by omega))
  generalize hdv gs now i = r1 at *
  obtain ⟨l1, cd1⟩ := r1
  have HB3 := (show Hid (Below w2.heap.size w2 w3) from b3)
  have H1 := (show Hid (w3.ownsRow w2.heap.size 3 1 (.slice A1 l1.length c1) l1.length (l1.map U.nI)) from ho1)
  have p1 := (HS2.out.box HB3.out).1
  have p2 := (HS2.out.box HB3.out).2
  clear ho1 b3 HE2 y1 y2 HA HD HKn
  go_wp2_with fail
  refine (HD1.out w3 _ _ (HIn.out _ (HS2.out.later HB3.out)).2).mono ?_
  rintro e w4 ⟨⟨A2, c2, rfl, ho2⟩, b4⟩
  have HB4 := (show Hid (Below w2.heap.size w2 w4) from HB3.out.trans (b4.mono HB3.out.size))
  have H4 := (show Hid (w4.ownsRow w2.heap.size 3 1 (.slice A1 l1.length c1) l1.length (l1.map U.nI) ∧ w4.ownsRow w3.heap.size 3 1 (.slice A2 l1.length c2) l1.length (l1.map U.nI)) from ⟨own_below H1.out b4, ho2⟩)
  clear ho2 b4 p1 p2 HB3 H1 HD1
  have p1 := (HS2.out.box HB4.out).1
  have p2 := (HS2.out.box HB4.out).2
  go_wp2_with fail
  refine (LA.out w4 _ _ (HIn.out _ (HS2.out.later HB4.out)).1).mono ?_
  rintro e w5 ⟨⟨A3, c3, now2, rfl, HKn, ho3⟩, b5⟩
  have HD2 := hid_of (LD.out now2 HKn)
  have HL2 := (show Hid ((lov gs now2).1.length ≤ 1000000) from lov_len)
  generalize lov gs now2 = r2 at *
  obtain ⟨l2, cd2⟩ := r2
  have HB5 := (show Hid (Below w2.heap.size w2 w5) from HB4.out.trans (b5.mono HB4.out.size))
  have H5 := (show Hid (w5.ownsRow w2.heap.size 3 1 (.slice A1 l1.length c1) l1.length (l1.map U.nI) ∧ w5.ownsRow w3.heap.size 3 1 (.slice A2 l1.length c2) l1.length (l1.map U.nI) ∧ w5.ownsRow w4.heap.size 31 2 (.slice A3 l2.length c3) l2.length (spc l2)) from ⟨own_below H4.out.1 b5, own_below H4.out.2 b5, ho3⟩)
  clear ho3 b5 p1 p2 HB4 H4 LA LD HKn
  have p1 := (HS2.out.box HB5.out).1
  have p2 := (HS2.out.box HB5.out).2
  go_wp2_with fail
  refine (HD2.out w5 _ _ (HIn.out _ (HS2.out.later HB5.out)).2).mono ?_
  rintro e w6 ⟨⟨A4, c4, rfl, ho4⟩, b6⟩
  have HB6 := (show Hid (Below w2.heap.size w2 w6) from HB5.out.trans (b6.mono HB5.out.size))
  have H6 := (show Hid (w6.ownsRow w2.heap.size 3 1 (.slice A1 l1.length c1) l1.length (l1.map U.nI) ∧ w6.ownsRow w3.heap.size 3 1 (.slice A2 l1.length c2) l1.length (l1.map U.nI) ∧ w6.ownsRow w4.heap.size 31 2 (.slice A3 l2.length c3) l2.length (spc l2) ∧ w6.ownsRow w5.heap.size 31 2 (.slice A4 l2.length c4) l2.length (spc l2)) from ⟨own_below H5.out.1 b6, own_below H5.out.2.1 b6, own_below H5.out.2.2 b6, ho4⟩)
  clear ho4 b6 p1 p2 HB5 H5 HD2
  go_wp2_with fail
  refine (HWk.out w6).mono ?_
  rintro e w7 ⟨rfl, b7⟩
  have HB7 := (show Hid (Below w2.heap.size w2 w7) from HB6.out.trans (b7.mono HB6.out.size))
  have H7 := (show Hid (w7.ownsRow w2.heap.size 3 1 (.slice A1 l1.length c1) l1.length (l1.map U.nI) ∧ w7.ownsRow w3.heap.size 3 1 (.slice A2 l1.length c2) l1.length (l1.map U.nI) ∧ w7.ownsRow w4.heap.size 31 2 (.slice A3 l2.length c3) l2.length (spc l2) ∧ w7.ownsRow w5.heap.size 31 2 (.slice A4 l2.length c4) l2.length (spc l2)) from ⟨own_below H6.out.1 b7, own_below H6.out.2.1 b7, own_below H6.out.2.2.1 b7, own_below H6.out.2.2.2 b7⟩)
  have HSa := (show Hid (∀ _ : Unit, Calls Tryz.prog 8 #[.slice A1 l1.length c1, .slice A2 l1.length c2] w7 fun e w' => e = .returned (.bool true) ∧ Below w7.heap.size w7 w') from fun _ => SameInts_any l1 HL1.out w7 H7.out.1 H7.out.2.1)
  clear b7 HB6 H6 HWk HL1
  go_wp2_with fail
  refine (HSa.out ()).mono ?_
  rintro e w8 ⟨rfl, b8⟩
  have HB8 := (show Hid (Below w2.heap.size w2 w8) from HB7.out.trans (b8.mono HB7.out.size))
  have HSb := (show Hid (∀ _ : Unit, Calls Tryz.prog 30 #[.slice A3 l2.length c3, .slice A4 l2.length c4] w8 fun e w' => e = .returned (.bool true) ∧ Below w8.heap.size w8 w') from fun _ => sameSpots_any l2 HL2.out w8 (own_below H7.out.2.2.1 b8) (own_below H7.out.2.2.2 b8))
  clear b8 HB7 H7 HSa HL2
  go_wp2_with fail
  refine (HSb.out ()).mono ?_
  rintro e w9 ⟨rfl, b9⟩
  have HB9 := (show Hid (Below w2.heap.size w2 w9) from HB8.out.trans (b9.mono HB8.out.size))
  have p1 := (HS2.out.box HB9.out).1
  have p2 := (HS2.out.box HB9.out).2
  clear b9 HB8 HSb
  go_wp2_with fail
  refine (HK.out w9 g cap ov HM.out (HS2.out.later HB9.out).l (HP.out.d.later (HS2.out.later HB9.out).l.b)).mono ?_
  rintro e w10 ⟨rfl, b10⟩
  have HB10 := (show Hid (Below w2.heap.size w2 w10) from HB9.out.trans (b10.mono HB9.out.size))
  clear b10 HB9 p1 p2 HK
  go_wp2_with fail
  go_ret
  exact ⟨rfl, HB0.out.trans (((HS2.out.l.b).trans (HB10.out.mono HS2.out.l.b.size)).mono HB0.out.size)⟩
end Go.Proofs.YtbipjdgholdhcabGreat.N

namespace Go.Proofs.YtbipjdgholdhcabGreat.N
open Go.RowKit Go.Maps
open Go.Proofs.YtbipjdgholdhcabGreat.T

open U (own_get own_slice below_grown TT)
theorem pgS_bd {gs : GL} {bd bd2 : Nat → Bool} (h : ∀ i, i < gs.length → bd i = bd2 i) : pgS gs bd = pgS gs bd2 := by
  unfold pgS
  refine List.map_congr_left fun i hi => ?_
  rw [h i (List.mem_range.1 hi)]
theorem rdE_bd0 {gs : GL} {kd : List Nd → Nat → List Nat} {bd bd2 : Nat → Bool} (h : ∀ i, i < gs.length → bd i = bd2 i) (now : List Em) : rdE gs kd bd now = rdE gs kd bd2 now := by
  apply List.ext_getElem?
  intro i
  by_cases hi : i < gs.length
  · have hg : gs[i]? = some gs[i] := List.getElem?_eq_getElem hi
    rw [rdE_get hg, rdE_get hg, h i hi]
  · rw [List.getElem?_eq_none (by rw [rdE_len]; omega), List.getElem?_eq_none (by rw [rdE_len]; omega)]
theorem pgE_bd {gs : GL} {kd : List Nd → Nat → List Nat} {bd bd2 : Nat → Bool} (h : ∀ i, i < gs.length → bd i = bd2 i) : ∀ m, pgE gs kd bd m = pgE gs kd bd2 m := by
  intro m
  induction m with
  | zero => exact pgS_bd h
  | succ m ih =>
    show rdE gs kd bd (pgE gs kd bd m) = rdE gs kd bd2 (pgE gs kd bd2 m)
    rw [ih, rdE_bd0 h]
theorem kf_same {gs : GL} {a b : List Em} (h1 : KnF gs a) (h2 : KnF gs b) : a = b := by
  obtain ⟨R, bd, m, hI, hbd, rfl, he⟩ := h1
  obtain ⟨R2, bd2, m2, hI2, hbd2, rfl, he2⟩ := h2
  have hs : ∀ i, i < gs.length → bd2 i = bd i := fun i hi => by
    rw [hbd2 i, hbd i]
    congr 1
    rw [Bool.eq_iff_iff, hI2.rl i i hi hi, hI.rl i i hi hi]
  rw [pgE_bd hs] at he2 ⊢
  rw [pgE_bd hs] at he2
  have e1 := pg_fix he m2
  have e2 := pg_fix he2 m
  rw [← e1, ← e2, Nat.add_comm]

theorem od_val {gs : GL} {now : List Em} {B : Nat} {w' : World} {e : Ending} {l : List Nat} {p q : Nat} {cd : Int} (hv : VdD gs now l p q cd) (h : OrD gs now B w' e) : ∃ (A1 : Option Addr) (c1 : Nat), e = .returned (.tuple #[.slice A1 (if cd = 0 then ordK gs.length (hdM gs (nbE now)) gs.length else []).length c1, .int .i64 cd]) ∧ w'.ownsRow B 3 1 (.slice A1 (if cd = 0 then ordK gs.length (hdM gs (nbE now)) gs.length else []).length c1) (if cd = 0 then ordK gs.length (hdM gs (nbE now)) gs.length else []).length ((if cd = 0 then ordK gs.length (hdM gs (nbE now)) gs.length else []).map U.nI) := by
  obtain ⟨l2, p2, q2, cd2, hv2, h1, h2⟩ := h
  obtain ⟨_, _, _, rfl⟩ := vd_one hv hv2
  by_cases hc : cd2 = 0
  · subst hc
    rw [if_pos rfl]
    obtain ⟨v, rfl, ho⟩ := h2 rfl
    obtain ⟨A1, c1, rfl⟩ := own_slice ho
    exact ⟨A1, c1, rfl, ho⟩
  · rw [if_neg hc, h1 hc]
    exact ⟨none, 0, rfl, World.ownsRow_nil _ _ _ _⟩
set_option maxRecDepth 100000 in
set_option maxHeartbeats 16000000 in
/-- Order, by the program. -/
theorem forder_any (gs : GL) (A : Option Addr) (c : Nat) (w : World) (hp : GI w A gs) :
    Calls Tryz.prog 12 #[.agg #[.slice A gs.length c]] w fun e w' => (∃ now l p q cd, ((ckG gs).2 = 0 → KnF gs now ∧ now.length = gs.length) ∧ VdD gs now l p q cd ∧ OrD gs now w.heap.size w' e) ∧ Below w.heap.size w w' := by
  obtain ⟨w1, hw1⟩ : ∃ w1, w1 = w.alloc (.cells #[.slice A gs.length c] 24) := ⟨_, rfl⟩
  have HE1 := (show Hid (w.alloc (.cells #[.slice A gs.length c] 24) = w1) from hw1.symm)
  have HS := (show Hid (Below w.heap.size w w1 ∧ GX w1 w.heap.size (.slice A gs.length c)) from by rw [hw1]; exact ⟨below_box _ _, GX.mk (heap_alloc_new w _)⟩)
  have HJ := (show Hid (∀ _ : Unit, Calls Tryz.prog 21 #[.agg #[.slice A gs.length c]] w1 fun e w' => (∃ (hv vc : Value) (l : List Nat) (p q : Nat) (cd : Int), e = .returned (.tuple #[hv, .agg #[vc, .int .i64 (p : Int), .int .i64 (q : Int)], .int .i64 cd]) ∧ VdR gs l p q cd ∧ w'.ownsRow w1.heap.size 3 1 vc l.length (l.map U.nI) ∧ (cd = 0 → ∃ now xs, KnF gs now ∧ now.length = gs.length ∧ xs.length = gs.length ∧ TT w' w1.heap.size 29 3 hv (hdT gs.length (hdM gs (nbE now)) gs.length) xs)) ∧ Below w1.heap.size w1 w') from fun _ => judged_any gs A c w1 (hp.later HS.out.1))
  have q1 := HS.out.2.cl
  clear hw1 hp
  go_enter Tryz.func12, Tryz.ntmps12
  go_wp2_with (rw [HE1.out])
  refine (HJ.out ()).mono ?_
  rintro e w2 ⟨⟨hv, vc, l, p, q, cd, rfl, hvd, ho, hT⟩, b2⟩
  obtain ⟨Ac, cc, rfl⟩ := own_slice ho
  obtain ⟨now, hkn, hvd2⟩ := vd_doc hvd
  have HV := (show Hid (((ckG gs).2 = 0 → KnF gs now ∧ now.length = gs.length) ∧ VdD gs now l p q cd) from ⟨hkn, hvd2⟩)
  obtain ⟨w3, hw3⟩ : ∃ w3, w3 = w2.alloc (.cells #[.slice Ac l.length cc, .int .i64 (p : Int), .int .i64 (q : Int)] 33) := ⟨_, rfl⟩
  have HE3 := (show Hid (w2.alloc (.cells #[.slice Ac l.length cc, .int .i64 (p : Int), .int .i64 (q : Int)] 33) = w3) from hw3.symm)
  have hb3 : Below w2.heap.size w2 w3 := by rw [hw3]; exact below_box _ _
  have HB3 := (show Hid (Below w.heap.size w w3) from (HS.out.1.trans (b2.mono HS.out.1.size)).trans (hb3.mono (HS.out.1.trans (b2.mono HS.out.1.size)).size))
  clear hvd hkn hvd2 ho b2 hw3 HS HE1 HJ q1
  by_cases hcd : cd = 0
  · subst hcd
    have hz : (ckG gs).2 = 0 := by
      by_cases e : (ckG gs).2 = 0
      · exact e
      · exact (HV.out.2.1 e).2.2.symm ▸ rfl
    have hR := ckG_ok.1 hz
    obtain ⟨now2, xs, k2, n2, hxl, hT2⟩ := hT rfl
    obtain rfl := kf_same (HV.out.1 hz).1 k2
    obtain ⟨Ah, ch, hAh⟩ := own_slice hT2.o
    rw [hxl] at hAh
    subst hAh
    have HOr := (show Hid (∀ _ : Unit, Calls Tryz.prog 25 #[.slice Ah gs.length ch] w3 fun e w' => (∃ v, e = .returned v ∧ w'.ownsRow w3.heap.size 3 1 v (ordK gs.length (hdM gs (nbE now)) gs.length).length ((ordK gs.length (hdM gs (nbE now)) gs.length).map U.nI)) ∧ Below w3.heap.size w3 w') from fun _ => order_any (hdM_lt hR) hR.n2 Ah ch w3 (tt_rdl (hT2.below hb3) hxl hR.n1))
    clear hz hR k2 n2 hxl hT2 hT hb3
    go_wp2_with (rw [HE3.out])
    refine (HOr.out ()).mono ?_
    rintro e w4 ⟨⟨v, rfl, ho⟩, b4⟩
    have HF := (show Hid (w4.ownsRow w.heap.size 3 1 v (ordK gs.length (hdM gs (nbE now)) gs.length).length ((ordK gs.length (hdM gs (nbE now)) gs.length).map U.nI) ∧ Below w.heap.size w w4) from ⟨own_base ho HB3.out.size, HB3.out.trans (b4.mono HB3.out.size)⟩)
    clear ho b4 HOr HE3
    go_wp2_with fail
    refine bodyPost_ret (v := .tuple #[v, .int .i64 0]) (by simp [results, Tryz.results12, go_sem]) rfl ?_
    exact ⟨⟨now, l, p, q, 0, HV.out.1, HV.out.2, l, p, q, 0, HV.out.2, fun e => absurd rfl e, fun _ => ⟨v, rfl, HF.out.1⟩⟩, HF.out.2⟩
  · have tz : (cd != 0) = true := by rw [bne, beq_eq_false_iff_ne.2 hcd]; rfl
    have HZ := (show Hid (cd ≠ 0) from hcd)
    clear hcd hT hb3
    go_wp2_with (rw [HE3.out])
    refine bodyPost_ret (v := .tuple #[.slice none 0 0, .int .i64 cd]) (by simp [results, Tryz.results12, go_sem]) rfl ?_
    exact ⟨⟨now, l, p, q, cd, HV.out.1, HV.out.2, l, p, q, cd, HV.out.2, fun _ => rfl, fun e => absurd e HZ.out⟩, HB3.out⟩

set_option maxRecDepth 100000 in
set_option maxHeartbeats 32000000 in
theorem orders_law (gs : GL) (A : Option Addr) (c : Nat) (w : World) (hg : GrIn w A c gs) : Calls Tryz.prog 15 #[.agg #[.slice A gs.length c]] w fun e w' => e = .returned (.bool true) ∧ Below w.heap.size w w' := by
  have hl := hg.len
  obtain ⟨w0, hw0⟩ : ∃ w0, w0 = w.alloc (.cells #[.slice A gs.length c] 24) := ⟨_, rfl⟩
  have hb0 : Below w.heap.size w w0 := by rw [hw0]; exact below_box w _
  have HX0 := (show Hid (GX w0 w.heap.size (.slice A gs.length c)) from by rw [hw0]; exact GX.mk (heap_alloc_new w _))
  have HE0 := (show Hid (w.alloc (.cells #[.slice A gs.length c] 24) = w0) from hw0.symm)
  have hg0 : GrIn w0 A c gs := hg.later hb0
  have HLe : Hid (∀ _ : Unit, Calls Tryz.prog 9 #[.agg #[.slice A gs.length c]] w0 fun e w' => ∃ g cap ov, e = .returned (.agg #[.slice (some ⟨g, 0, none⟩) gs.length cap]) ∧ ov.map (·.1) = gs ∧ LgB w0 w' g cap ov) := fun _ => lendG_any gs A c w0 hg0
  have HK : Hid (∀ (w' : World) (g cap : Nat) (ov : List Le), ov.map (·.1) = gs → LgB w0 w' g cap ov → GrD w' A gs → Calls Tryz.prog 16 #[.agg #[.slice (some ⟨g, 0, none⟩) gs.length cap], .agg #[.slice A gs.length c]] w' fun e w'' => e = .returned (.bool true) ∧ Below w'.heap.size w' w'') := fun w' g cap ov h0 h1 h2 => keptG_any h0 (fun r hr => by
    obtain ⟨k, hk⟩ := List.getElem?_of_mem hr
    obtain ⟨_, _, h6, _⟩ := hg.each k r hk
    exact h6.2.2.2.1) hl h1 h2
  have HWk := (show Hid (∀ W, Calls Tryz.prog 6 #[] W fun e w' => e = .returned (.bool true) ∧ Below W.heap.size W w') from lives_any)
  have HP := (show Hid (GI w0 A gs) from hg0.gi)
  have HB0 := (show Hid (Below w.heap.size w w0) from hb0)
  have x0 := HX0.out.cl
  have HA : Hid (∀ (w' : World) (Ap : Option Addr) (cp : Nat), GI w' Ap gs → Calls Tryz.prog 12 #[.agg #[.slice Ap gs.length cp]] w' fun e w'' => (∃ (A1 : Option Addr) (c1 : Nat) (l : List Nat) (cd : Int), e = .returned (.tuple #[.slice A1 l.length c1, .int .i64 cd]) ∧ l.length ≤ 1000000 ∧ Hid (∀ (w' : World) (Ap : Option Addr) (cp : Nat), GI w' Ap gs → Calls Tryz.prog 31 #[.agg #[.slice Ap gs.length cp]] w' fun e w'' => (∃ (A1 : Option Addr) (c1 : Nat), e = .returned (.tuple #[.slice A1 l.length c1, .int .i64 cd]) ∧ w''.ownsRow w'.heap.size 3 1 (.slice A1 l.length c1) l.length (l.map U.nI)) ∧ Below w'.heap.size w' w'') ∧ w''.ownsRow w'.heap.size 3 1 (.slice A1 l.length c1) l.length (l.map U.nI)) ∧ Below w'.heap.size w' w'') := fun w' Ap cp h => by
    refine (forder_any gs Ap cp w' h).mono ?_
    rintro e w'' ⟨⟨now, l, p, q, cd, hk, hv, hd⟩, b⟩
    obtain ⟨A1, c1, rfl, ho⟩ := od_val hv hd
    refine ⟨⟨A1, c1, _, cd, rfl, ?_, fun w' Ap cp h => ?_, ho⟩, b⟩
    · by_cases hc : cd = 0
      · rw [if_pos hc]
        have hz : (ckG gs).2 = 0 := by
          by_cases e : (ckG gs).2 = 0
          · exact e
          · rw [← (hv.1 e).2.2]; exact hc
        exact Nat.le_trans (ordK_few _) (Nat.le_trans (ckG_ok.1 hz).n2 (by omega))
      · rw [if_neg hc]; exact Nat.zero_le _
    · refine (orderD10_any hk Ap cp w' h).mono ?_
      rintro e w'' ⟨hd, b⟩
      obtain ⟨A2, c2, rfl, ho⟩ := od_val hv hd
      exact ⟨⟨A2, c2, rfl, ho⟩, b⟩
  clear hg hl hg0 hw0 hb0
  go_enter Tryz.func15, Tryz.ntmps15
  go_wp2_with (rw [HE0.out])
  refine (HLe.out ()).mono ?_
  rintro e w1 ⟨g, cap, ov, rfl, hm, ho⟩
  have HM := (show Hid (ov.map (·.1) = gs) from hm)
  obtain ⟨w2, hw2⟩ : ∃ w2, w2 = w1.alloc (.cells #[.slice (some ⟨g, 0, none⟩) gs.length cap] 24) := ⟨_, rfl⟩
  have HE2 := (show Hid (w1.alloc (.cells #[.slice (some ⟨g, 0, none⟩) gs.length cap] 24) = w2) from hw2.symm)
  have HS2 := (show Hid (LyS w0 w2 w.heap.size w1.heap.size (.slice A gs.length c) (.slice (some ⟨g, 0, none⟩) gs.length cap) g cap ov) from by
    have hb : Below w1.heap.size w1 w2 := by rw [hw2]; exact below_box w1 _
    have hX1 : GX w1 w.heap.size (.slice A gs.length c) := HX0.out.same (ho.b.block _ HX0.out.lt)
    exact ⟨ho.later hb, hX1.below hb, by rw [hw2]; exact GX.mk (heap_alloc_new w1 _)⟩)
  have y1 := HS2.out.x1.cl
  have y2 := HS2.out.x2.cl
  have HIn := (show Hid (∀ W, LyS w0 W w.heap.size w1.heap.size (.slice A gs.length c) (.slice (some ⟨g, 0, none⟩) gs.length cap) g cap ov → GI W (some ⟨g, 0, none⟩) gs ∧ GI W A gs) from fun W h => ⟨⟨h.l.gr HM.out, HP.out.l, HP.out.t⟩, HP.out.later h.l.b⟩)
  clear ho hm HLe hw2 x0 HX0
  go_wp2_with (rw [HE2.out])
  generalize w1.heap.size = k1 at *
  refine (HA.out w2 _ _ (HIn.out _ HS2.out).1).mono ?_
  rintro e w3 ⟨⟨A1, c1, l1, cd1, rfl, hl1, HD1, ho1⟩, b3⟩
  have HL1 := (show Hid (l1.length ≤ 1000000) from hl1)
  have HB3 := (show Hid (Below w2.heap.size w2 w3) from b3)
  have H1 := (show Hid (w3.ownsRow w2.heap.size 3 1 (.slice A1 l1.length c1) l1.length (l1.map U.nI)) from ho1)
  have p1 := (HS2.out.box HB3.out).1
  have p2 := (HS2.out.box HB3.out).2
  clear ho1 b3 HE2 y1 y2 HA hl1
  go_wp2_with fail
  refine (HD1.out w3 _ _ (HIn.out _ (HS2.out.later HB3.out)).2).mono ?_
  rintro e w4 ⟨⟨A2, c2, rfl, ho2⟩, b4⟩
  have HB4 := (show Hid (Below w2.heap.size w2 w4) from HB3.out.trans (b4.mono HB3.out.size))
  have H4 := (show Hid (w4.ownsRow w2.heap.size 3 1 (.slice A1 l1.length c1) l1.length (l1.map U.nI) ∧ w4.ownsRow w3.heap.size 3 1 (.slice A2 l1.length c2) l1.length (l1.map U.nI)) from ⟨own_below H1.out b4, ho2⟩)
  clear ho2 b4 p1 p2 HB3 H1 HD1
  go_wp2_with fail
  refine (HWk.out w4).mono ?_
  rintro e w7 ⟨rfl, b7⟩
  have HB7 := (show Hid (Below w2.heap.size w2 w7) from HB4.out.trans (b7.mono HB4.out.size))
  have HSa := (show Hid (∀ _ : Unit, Calls Tryz.prog 8 #[.slice A1 l1.length c1, .slice A2 l1.length c2] w7 fun e w' => e = .returned (.bool true) ∧ Below w7.heap.size w7 w') from fun _ => SameInts_any l1 HL1.out w7 (own_below H4.out.1 b7) (own_below H4.out.2 b7))
  clear b7 HB4 H4 HWk HL1
  go_wp2_with fail
  refine (HSa.out ()).mono ?_
  rintro e w8 ⟨rfl, b8⟩
  have HB8 := (show Hid (Below w2.heap.size w2 w8) from HB7.out.trans (b8.mono HB7.out.size))
  have p1 := (HS2.out.box HB8.out).1
  have p2 := (HS2.out.box HB8.out).2
  clear b8 HB7 HSa
  go_wp2_with fail
  refine (HK.out w8 g cap ov HM.out (HS2.out.later HB8.out).l (HP.out.d.later (HS2.out.later HB8.out).l.b)).mono ?_
  rintro e w9 ⟨rfl, b9⟩
  have HB9 := (show Hid (Below w2.heap.size w2 w9) from HB8.out.trans (b9.mono HB8.out.size))
  clear b9 HB8 p1 p2 HK
  go_wp2_with fail
  go_ret
  exact ⟨rfl, HB0.out.trans (((HS2.out.l.b).trans (HB9.out.mono HS2.out.l.b.size)).mono HB0.out.size)⟩
end Go.Proofs.YtbipjdgholdhcabGreat.N

namespace Go.Proofs.YtbipjdgholdhcabGreat.N
open Go.RowKit Go.Maps
open Go.Proofs.YtbipjdgholdhcabGreat.T
theorem own_sl {W : World} {B e s n : Nat} {v : Value} {xs : List Value} (h : W.ownsRow B e s v n xs) : ∃ A cap, v = .slice A n cap := by
  rcases h.2 with ⟨rfl, rfl⟩ | ⟨g, cap, cur, rfl, _⟩
  · exact ⟨_, _, rfl⟩
  · exact ⟨_, _, rfl⟩
end Go.Proofs.YtbipjdgholdhcabGreat.N

namespace Go.Proofs.YtbipjdgholdhcabGreat.N
open Go.RowKit Go.Maps
open Go.Proofs.YtbipjdgholdhcabGreat.T

open U (nI)
set_option maxRecDepth 100000 in
set_option maxHeartbeats 8000000 in
/-- SpoilInts: only the row itself is written. -/
theorem spoilI_any (mk : Int) (v : Value) (n B : Nat) (xs : List Value) (w : World) (h : w.ownsRow B 3 1 v n xs) (hB : B ≤ w.heap.size) (hn : n ≤ 20000000) :
    Calls Tryz.prog 10 #[v, .int .i64 mk] w fun e w' => e = .returned (.tuple #[]) ∧ w.grownBy w' v.ownBlock := by
  obtain ⟨A, c, rfl⟩ := own_sl h
  have HA := (show Hid (∃ ys, w.ownsRow B 3 1 (.slice A n c) n ys) from ⟨xs, h⟩)
  have HX := (show Hid (0 < n → ∃ g, A = some ⟨g, 0, none⟩) from fun h0 => by
    obtain ⟨g, cap, e, _⟩ := h.form h0
    cases e
    exact ⟨g, rfl⟩)
  clear h
  go_enter Tryz.func10, Tryz.ntmps10
  go_wp2_with fail
  go_loopw [4] (fun t wr => ∃ k : Nat, k ≤ n ∧ t = .int .i64 k ∧ Hid (∃ ys, wr.ownsRow B 3 1 (.slice A n c) n ys) ∧ Hid (w.grownBy wr (Value.slice A n c).ownBlock)) (fun t _ => n - (intOf t).toNat)
  case atStart => exact ⟨0, by omega, by go_num, HA, World.grownBy.refl _ _⟩
  case round =>
    obtain ⟨k, hk, rfl, HO, HW⟩ := hrel
    clear HA
    by_cases hlt : k < n
    · obtain ⟨g, rfl⟩ := HX.out (by omega)
      obtain ⟨ys, ho⟩ := HO.out
      have hyl : ys.length = n := by have := ho.1; omega
      obtain ⟨y0, c0⟩ : ∃ y, wr.cell? ⟨g, k, none⟩ = some y := ⟨_, (ho.cellAt k (by omega)).trans (List.getElem?_eq_getElem (by omega))⟩
      have f0 := ho.frozenAt k
      obtain ⟨st1, st2⟩ := ho.stored k (.int .i64 mk)
      have HO2 := (show Hid (∃ ys, World.ownsRow _ B 3 1 (.slice (some ⟨g, 0, none⟩) n c) n ys) from ⟨_, st1⟩)
      have HW2 := (show Hid _ from HW.out.trans st2)
      have z0 : (0 : Int) ≤ (k : Int) := by omega
      have z1 : (k : Int) < (n : Int) := by omega
      clear HO HW st1 st2 ho hyl HX
      go_wp2_with fail
      go_roundw
      case rel => exact ⟨k + 1, by omega, by go_num, HO2, HW2⟩
      case measure => simp [intOf]; omega
    · obtain rfl : k = n := by omega
      obtain ⟨ys, hO1⟩ := HO.out
      have hsz := HW.out.size
      clear HX
      obtain ⟨i0, hinf, hz0, hz1, hz2⟩ := U.info_split Tryz.info3
      go_wp2_with (at_builtin; refine wpList_append_lies _ rfl _ _ 29 rfl B 3 i0 (.int .i64 0) 1 8 Tryz.underlying29 hinf hz0 hz1 hz2 rfl (by decide) _ _ _ rfl (hO1.alloc _) ⟨wr.heap.size, 0, none⟩ 1 1 [.int .i64 mk] rfl rfl ?c1 ?c2 (by decide) ?c3 ?c4 ?c5 (wr.heap.size + 1) (by simp) ?_)
      case c1 => exact World.news_of_block (cs := #[.int .i64 mk]) (t := 3) (fr := (0, 0)) (heap_alloc_new wr _)
      case c2 => intro u hu; rw [List.mem_singleton.1 hu]; rfl
      case c3 => unfold maxLen; omega
      case c4 => omega
      case c5 => rw [World.size_alloc]; omega
      intro g3 cap w3 hown hgrow hat hlt3
      have HG := (show Hid _ from HW.out.trans ((World.grownBy_alloc wr (.cells #[.int .i64 mk] 3) _).trans hgrow))
      clear hown hgrow hat hlt3 hO1 HO HW
      go_wp2_with fail
      go_end0
      exact ⟨rfl, HG.out⟩
end Go.Proofs.YtbipjdgholdhcabGreat.N

namespace Go.Proofs.YtbipjdgholdhcabGreat.N
open Go.RowKit Go.Maps
open Go.Proofs.YtbipjdgholdhcabGreat.T

open U (own_get own_slice below_grown)
/-- Heads answers a list of its own. -/
theorem fheads_own (gs : GL) (A : Option Addr) (c : Nat) (i : Int) (w : World) (hp : GI w A gs) :
    Calls Tryz.prog 11 #[.agg #[.slice A gs.length c], .int .i64 i] w fun e w' => (∃ (A1 : Option Addr) (n c1 : Nat) (xs : List Value) (cd : Int), e = .returned (.tuple #[.slice A1 n c1, .int .i64 cd]) ∧ w'.ownsRow w.heap.size 3 1 (.slice A1 n c1) n xs ∧ n ≤ 20000000) ∧ Below w.heap.size w w' := by
  refine (fheads_any gs A c i w hp).mono ?_
  rintro e w' ⟨hh, b⟩
  by_cases hz : (ckG gs).2 = 0
  · have hR := ckG_ok.1 hz
    by_cases h : i < 0 ∨ (gs.length : Int) ≤ i
    · rw [(hh.2 hz).1 h]
      exact ⟨⟨none, 0, 0, [], 1, rfl, World.ownsRow_nil _ _ _ _, by omega⟩, b⟩
    · obtain ⟨r, rfl⟩ : ∃ r : Nat, i = (r : Int) := ⟨i.toNat, by omega⟩
      obtain ⟨now, v, _, _, rfl, ho⟩ := (hh.2 hz).2 r rfl (by omega)
      obtain ⟨A1, c1, rfl⟩ := own_slice ho
      exact ⟨⟨A1, _, c1, _, 0, rfl, ho, by have h1 := hdl_len gs.length (hdM gs (nbE now)) r; have h2 := hR.n2; omega⟩, b⟩
  · rw [hh.1 hz]
    exact ⟨⟨none, 0, 0, [], _, rfl, World.ownsRow_nil _ _ _ _, by omega⟩, b⟩
/-- So does Order. -/
theorem forder_own (gs : GL) (A : Option Addr) (c : Nat) (w : World) (hp : GI w A gs) :
    Calls Tryz.prog 12 #[.agg #[.slice A gs.length c]] w fun e w' => (∃ (A1 : Option Addr) (n c1 : Nat) (xs : List Value) (cd : Int), e = .returned (.tuple #[.slice A1 n c1, .int .i64 cd]) ∧ w'.ownsRow w.heap.size 3 1 (.slice A1 n c1) n xs ∧ n ≤ 20000000) ∧ Below w.heap.size w w' := by
  refine (forder_any gs A c w hp).mono ?_
  rintro e w' ⟨⟨now, l, p, q, cd, hk, hv, hd⟩, b⟩
  obtain ⟨A1, c1, rfl, ho⟩ := od_val hv hd
  refine ⟨⟨A1, _, c1, _, cd, rfl, ho, ?_⟩, b⟩
  by_cases hc : cd = 0
  · rw [if_pos hc]
    have hz : (ckG gs).2 = 0 := by
      by_cases e : (ckG gs).2 = 0
      · exact e
      · exfalso; have h1 := (hv.1 e).2.2; rw [hc] at h1; exact e h1.symm
    have h1 := ordK_few (n := gs.length) (c := hdM gs (nbE now)) gs.length
    have h2 := (ckG_ok.1 hz).n2
    omega
  · rw [if_neg hc]; show (0 : Nat) ≤ _; omega

set_option maxRecDepth 100000 in
set_option maxHeartbeats 32000000 in
theorem own_law (gs : GL) (A : Option Addr) (c : Nat) (r : Int) (w : World) (hg : GrIn w A c gs) : Calls Tryz.prog 4 #[.agg #[.slice A gs.length c], .int .i64 r] w fun e w' => e = .returned (.bool true) ∧ Below w.heap.size w w' := by
  have hl := hg.len
  obtain ⟨w0, hw0⟩ : ∃ w0, w0 = w.alloc (.cells #[.slice A gs.length c] 24) := ⟨_, rfl⟩
  have hb0 : Below w.heap.size w w0 := by rw [hw0]; exact below_box w _
  have HX0 := (show Hid (GX w0 w.heap.size (.slice A gs.length c)) from by rw [hw0]; exact GX.mk (heap_alloc_new w _))
  have HE0 := (show Hid (w.alloc (.cells #[.slice A gs.length c] 24) = w0) from hw0.symm)
  have hg0 : GrIn w0 A c gs := hg.later hb0
  have HLe : Hid (∀ _ : Unit, Calls Tryz.prog 9 #[.agg #[.slice A gs.length c]] w0 fun e w' => ∃ g cap ov, e = .returned (.agg #[.slice (some ⟨g, 0, none⟩) gs.length cap]) ∧ ov.map (·.1) = gs ∧ LgB w0 w' g cap ov) := fun _ => lendG_any gs A c w0 hg0
  have HK : Hid (∀ (w' : World) (g cap : Nat) (ov : List Le), ov.map (·.1) = gs → LgB w0 w' g cap ov → GrD w' A gs → Calls Tryz.prog 16 #[.agg #[.slice (some ⟨g, 0, none⟩) gs.length cap], .agg #[.slice A gs.length c]] w' fun e w'' => e = .returned (.bool true) ∧ Below w'.heap.size w' w'') := fun w' g cap ov h0 h1 h2 => keptG_any h0 (fun r hr => by
    obtain ⟨k, hk⟩ := List.getElem?_of_mem hr
    obtain ⟨_, _, h6, _⟩ := hg.each k r hk
    exact h6.2.2.2.1) hl h1 h2
  have HP := (show Hid (GI w0 A gs) from hg0.gi)
  have HB0 := (show Hid (Below w.heap.size w w0) from hb0)
  have HLw := (show Hid (∀ W, Below w0.heap.size w0 W → Calls Tryz.prog 13 #[.agg #[.slice A gs.length c]] W fun e w' => e = .returned (.bool true) ∧ Below W.heap.size W w') from fun W hW => checks_law gs A c W (hg0.later hW))
  have HLh := (show Hid (∀ W, Below w0.heap.size w0 W → Calls Tryz.prog 14 #[.agg #[.slice A gs.length c], .int .i64 r] W fun e w' => e = .returned (.bool true) ∧ Below W.heap.size W w') from fun W hW => heads_law gs A c r W (hg0.later hW))
  have HLo := (show Hid (∀ W, Below w0.heap.size w0 W → Calls Tryz.prog 15 #[.agg #[.slice A gs.length c]] W fun e w' => e = .returned (.bool true) ∧ Below W.heap.size W w') from fun W hW => orders_law gs A c W (hg0.later hW))
  have HSp := (show Hid (∀ (mk : Int) (v : Value) (n B : Nat) (xs : List Value) (W : World), W.ownsRow B 3 1 v n xs → B ≤ W.heap.size → n ≤ 20000000 → Calls Tryz.prog 10 #[v, .int .i64 mk] W fun e w' => e = .returned (.tuple #[]) ∧ W.grownBy w' v.ownBlock) from spoilI_any)
  have x0 := HX0.out.cl
  clear hg hl hg0 hw0 hb0
  go_enter Tryz.func4, Tryz.ntmps4
  go_wp2_with (rw [HE0.out])
  refine (HLe.out ()).mono ?_
  rintro e w1 ⟨g, cap, ov, rfl, hm, ho⟩
  have HM := (show Hid (ov.map (·.1) = gs) from hm)
  obtain ⟨w2, hw2⟩ : ∃ w2, w2 = w1.alloc (.cells #[.slice (some ⟨g, 0, none⟩) gs.length cap] 24) := ⟨_, rfl⟩
  have HE2 := (show Hid (w1.alloc (.cells #[.slice (some ⟨g, 0, none⟩) gs.length cap] 24) = w2) from hw2.symm)
  have HS2 := (show Hid (LyS w0 w2 w.heap.size w1.heap.size (.slice A gs.length c) (.slice (some ⟨g, 0, none⟩) gs.length cap) g cap ov) from by
    have hb : Below w1.heap.size w1 w2 := by rw [hw2]; exact below_box w1 _
    have hX1 : GX w1 w.heap.size (.slice A gs.length c) := HX0.out.same (ho.b.block _ HX0.out.lt)
    exact ⟨ho.later hb, hX1.below hb, by rw [hw2]; exact GX.mk (heap_alloc_new w1 _)⟩)
  have HIn := (show Hid (∀ W, Below w2.heap.size w2 W → GI W (some ⟨g, 0, none⟩) gs) from fun W h => ⟨(HS2.out.later h).l.gr HM.out, HP.out.l, HP.out.t⟩)
  have HC1 := (show Hid (∀ W, Below w2.heap.size w2 W → Calls Tryz.prog 7 #[.agg #[.slice (some ⟨g, 0, none⟩) gs.length cap]] W fun e w' => (∃ (A1 : Option Addr) (n c1 : Nat) (xs : List Value) (p q : Nat) (cd : Int), e = .returned (.tuple #[.agg #[.slice A1 n c1, .int .i64 (p : Int), .int .i64 (q : Int)], .int .i64 cd]) ∧ w'.ownsRow W.heap.size 3 1 (.slice A1 n c1) n xs ∧ n ≤ 20000000) ∧ Below W.heap.size W w') from fun W hW => by
    refine (fcheck_any gs _ cap W (HIn.out W hW)).mono ?_
    rintro e w' ⟨⟨v, l, p, q, cd, rfl, hr, ho⟩, b⟩
    obtain ⟨A1, c1, rfl⟩ := own_slice ho
    obtain ⟨_, _, h⟩ := vd_doc hr
    exact ⟨⟨A1, _, c1, _, p, q, cd, rfl, ho, Nat.le_trans (vd_len h) (by omega)⟩, b⟩)
  have HC2 := (show Hid (∀ W, Below w2.heap.size w2 W → Calls Tryz.prog 11 #[.agg #[.slice (some ⟨g, 0, none⟩) gs.length cap], .int .i64 r] W fun e w' => (∃ (A1 : Option Addr) (n c1 : Nat) (xs : List Value) (cd : Int), e = .returned (.tuple #[.slice A1 n c1, .int .i64 cd]) ∧ w'.ownsRow W.heap.size 3 1 (.slice A1 n c1) n xs ∧ n ≤ 20000000) ∧ Below W.heap.size W w') from fun W hW => fheads_own gs _ cap r W (HIn.out W hW))
  have HC3 := (show Hid (∀ W, Below w2.heap.size w2 W → Calls Tryz.prog 12 #[.agg #[.slice (some ⟨g, 0, none⟩) gs.length cap]] W fun e w' => (∃ (A1 : Option Addr) (n c1 : Nat) (xs : List Value) (cd : Int), e = .returned (.tuple #[.slice A1 n c1, .int .i64 cd]) ∧ w'.ownsRow W.heap.size 3 1 (.slice A1 n c1) n xs ∧ n ≤ 20000000) ∧ Below W.heap.size W w') from fun W hW => forder_own gs _ cap W (HIn.out W hW))
  have HBx := (show Hid (∀ W, Below w2.heap.size w2 W → W.cell? ⟨w.heap.size, 0, none⟩ = some (.slice A gs.length c) ∧ W.cell? ⟨w1.heap.size, 0, none⟩ = some (.slice (some ⟨g, 0, none⟩) gs.length cap)) from fun W hW => HS2.out.box hW)
  have HR2 := (show Hid (Below w2.heap.size w2 w2) from Below.refl _ _)
  have y2 := HS2.out.x2.cl
  clear ho hm HLe hw2 x0 HX0
  go_wp2_with (rw [HE2.out])
  clear HE2 y2
  generalize w1.heap.size = k1 at *
  go_loopw [6] (fun t wr => ∃ k : Nat, k ≤ 2 ∧ t = .int .i64 (k : Int) ∧ Hid (Below w2.heap.size w2 wr)) (fun t _ => 2 - (intOf t).toNat)
  case atStart => exact ⟨0, by omega, by go_num, HR2⟩
  case round =>
    obtain ⟨k, hk, rfl, HW⟩ := hrel
    clear HR2
    by_cases hlt : k < 2
    · have z1 : (k : Int) < 2 := by omega
      have y0 := (HBx.out wr HW.out).2
      go_wp2_with fail
      refine (HC1.out wr HW.out).mono ?_
      rintro e w3 ⟨⟨A3, n3, c3, xs3, p, q, cd, rfl, ho3, hn3⟩, b3⟩
      obtain ⟨w4, hw4⟩ : ∃ w4, w4 = w3.alloc (.cells #[.slice A3 n3 c3, .int .i64 (p : Int), .int .i64 (q : Int)] 33) := ⟨_, rfl⟩
      have HE4 := (show Hid (w3.alloc (.cells #[.slice A3 n3 c3, .int .i64 (p : Int), .int .i64 (q : Int)] 33) = w4) from hw4.symm)
      have hb4 : Below w3.heap.size w3 w4 := by rw [hw4]; exact below_box _ _
      have d4 : DX w4 w3.heap.size (.slice A3 n3 c3) (p : Int) (q : Int) := by rw [hw4]; exact DX.new w3 _ _ _
      have d0 := d4.c0
      have HO4 := (show Hid (w4.ownsRow wr.heap.size 3 1 (.slice A3 n3 c3) n3 xs3 ∧ Below wr.heap.size wr w4 ∧ wr.heap.size ≤ w4.heap.size ∧ n3 ≤ 20000000) from ⟨own_below ho3 hb4, b3.trans (hb4.mono b3.size), Nat.le_trans b3.size hb4.size, hn3⟩)
      clear ho3 b3 hw4 hb4 d4 hn3 y0
      go_wp2_with (rw [HE4.out])
      refine (HSp.out (-5) _ n3 wr.heap.size xs3 w4 HO4.out.1 HO4.out.2.2.1 HO4.out.2.2.2).mono ?_
      rintro e w5 ⟨rfl, hg5⟩
      have HW5 := (show Hid (Below w2.heap.size w2 w5) from HW.out.trans ((HO4.out.2.1.grown hg5 HO4.out.2.2.1 (fun k e => (HO4.out.1.lt k e).1)).mono HW.out.size))
      have y5 := (HBx.out w5 HW5.out).2
      clear hg5 HO4 HE4 HW d0
      go_wp2_with fail
      refine (HC2.out w5 HW5.out).mono ?_
      rintro e w6 ⟨⟨A6, n6, c6, xs6, cd6, rfl, ho6, hn6⟩, b6⟩
      have HO6 := (show Hid (w6.ownsRow w5.heap.size 3 1 (.slice A6 n6 c6) n6 xs6 ∧ Below w5.heap.size w5 w6 ∧ n6 ≤ 20000000) from ⟨ho6, b6, hn6⟩)
      clear ho6 b6 hn6 y5
      go_wp2_with fail
      refine (HSp.out (-6) _ n6 w5.heap.size xs6 w6 HO6.out.1 HO6.out.2.1.size HO6.out.2.2).mono ?_
      rintro e w7 ⟨rfl, hg7⟩
      have HW7 := (show Hid (Below w2.heap.size w2 w7) from HW5.out.trans ((HO6.out.2.1.grown hg7 HO6.out.2.1.size (fun k e => (HO6.out.1.lt k e).1)).mono HW5.out.size))
      have y7 := (HBx.out w7 HW7.out).2
      clear hg7 HO6 HW5
      go_wp2_with fail
      refine (HC3.out w7 HW7.out).mono ?_
      rintro e w8 ⟨⟨A8, n8, c8, xs8, cd8, rfl, ho8, hn8⟩, b8⟩
      have HO8 := (show Hid (w8.ownsRow w7.heap.size 3 1 (.slice A8 n8 c8) n8 xs8 ∧ Below w7.heap.size w7 w8 ∧ n8 ≤ 20000000) from ⟨ho8, b8, hn8⟩)
      clear ho8 b8 hn8 y7
      go_wp2_with fail
      refine (HSp.out (-7) _ n8 w7.heap.size xs8 w8 HO8.out.1 HO8.out.2.1.size HO8.out.2.2).mono ?_
      rintro e w9 ⟨rfl, hg9⟩
      have HW9 := (show Hid (Below w2.heap.size w2 w9) from HW7.out.trans ((HO8.out.2.1.grown hg9 HO8.out.2.1.size (fun k e => (HO8.out.1.lt k e).1)).mono HW7.out.size))
      clear hg9 HO8 HW7
      go_wp2_with fail
      go_roundw
      case rel => exact ⟨k + 1, by omega, by go_num, HW9⟩
      case measure => simp [intOf]; omega
    · obtain rfl : k = 2 := by omega
      have y0 := (HBx.out wr HW.out).1
      have HB2 := (show Hid (∀ W, Below w2.heap.size w2 W → Below w0.heap.size w0 W) from fun W hW => (HS2.out.later hW).l.b)
      clear HC1 HC2 HC3 HSp HIn
      go_wp2_with fail
      refine (HLw.out wr (HB2.out wr HW.out)).mono ?_
      rintro e w3 ⟨rfl, b3⟩
      have HW3 := (show Hid (Below w2.heap.size w2 w3) from HW.out.trans (b3.mono HW.out.size))
      have y3 := (HBx.out w3 HW3.out).1
      clear b3 y0 HW
      go_wp2_with fail
      refine (HLh.out w3 (HB2.out w3 HW3.out)).mono ?_
      rintro e w4 ⟨rfl, b4⟩
      have HW4 := (show Hid (Below w2.heap.size w2 w4) from HW3.out.trans (b4.mono HW3.out.size))
      have y4 := (HBx.out w4 HW4.out).1
      clear b4 y3 HW3
      go_wp2_with fail
      refine (HLo.out w4 (HB2.out w4 HW4.out)).mono ?_
      rintro e w5 ⟨rfl, b5⟩
      have HW5 := (show Hid (Below w2.heap.size w2 w5) from HW4.out.trans (b5.mono HW4.out.size))
      have y5 := (HBx.out w5 HW5.out).1
      have y6 := (HBx.out w5 HW5.out).2
      clear b5 y4 HW4
      go_wp2_with fail
      refine (HK.out w5 g cap ov HM.out (HS2.out.later HW5.out).l (HP.out.d.later (HB2.out w5 HW5.out))).mono ?_
      rintro e w6 ⟨rfl, b6⟩
      have HF := (show Hid (Below w.heap.size w w6) from by
        have h1 := HB2.out w5 HW5.out
        have h2 := HB0.out.trans (h1.mono HB0.out.size)
        exact h2.trans (b6.mono h2.size))
      clear b6 y5 y6 HW5 HK
      go_wp2_with fail
      go_ret
      exact ⟨rfl, HF.out⟩
end Go.Proofs.YtbipjdgholdhcabGreat.N

namespace Go.Proofs.YtbipjdgholdhcabGreat
open Go.ChangeShapes Go.WideShapes Go.ChangeAt Go.RowKit
open Go.ChangeMaps (open_string shut_string)
set_option maxRecDepth 100000 in
theorem fordOwn_lifted (os : Os) (started : os.Started) (H : Type) (enc : TypeId × Value → H) :
    ReturnsInHanded {} Tryz.checked os 4 .any (Rows.fordOwnSpec.pre6 enc Tryz.prog Tryz.f4 Rows.fordOwnRow.domain false) (Rows.fordOwnSpec.post enc Tryz.prog Tryz.f4 false true false false) := by
  refine returnsInHanded_of_change_sized (C := Tryz.checked) T.own started (by kernel_rfl) Tryz.func4
    (ChangeSpec.witness6 (enc := enc) (C := Tryz.checked) false ⟨#[], #[.agg #[.slice none 0 0], .int .i64 0], []⟩ 8 (by kernel_rfl) (by kernel_rfl) (by kernel_rfl) (by kernel_rfl)) ?_
  intro W base args ds gs before hval0 hW hcnd hsz _
  have hval : ∀ (j : Nat) t v, Tryz.f4.params[j]? = some t → args[j]? = some v → Value.okWide Tryz.prog W .any base t v := hval0
  have hW' := hW
  obtain ⟨p, q, hA0, hV, rfl, hfz, hnd⟩ := hW
  have hA : DataW.TrodAll enc Tryz.prog W 0 (fun _ => true) true Tryz.f4.params.toList args.toList ds p := hA0
  rw [Tryz.params4] at hA hval
  have hsz : (DataW.weightsEach Tryz.prog (#[24, 3].toList ++ Rows.fordOwnSpec.plain.varTypes Tryz.prog) (ds ++ gs)).all (· ≤ reachBytes) = true := hsz
  obtain ⟨v0, v1, d0, d1, p0, p1, rfl, rfl, rfl, h0, h1⟩ := trodAll_two hA
  obtain ⟨rfl, rfl⟩ := trodVars_none hV
  have lt0 : ∀ x ∈ p0, x.block < W.heap.size := by obtain ⟨m, hm⟩ := h0; exact DataW.trod_lt m _ _ _ hm
  obtain ⟨A0, c0, L0, rfl, r0⟩ := N.open_gram h0 (hval 0 24 v0 rfl rfl) (T.sized_at hsz (j := 0) rfl rfl)
  obtain ⟨n1, rfl, rfl, rfl, wm1⟩ := open_int Tryz.underlying3 (hval 1 3 v1 rfl rfl) h1
  clear hA0 hval0
  refine (N.own_law L0 A0 c0 n1 W r0).mono fun e W' ⟨he, bel⟩ => ?_
  subst he
  exact ⟨_, rfl, _, _, _, [], _, [], hW', trodAll_mk1 (shut_bool Tryz.underlying4 _), (trodAll_cons_mk (Below.trod T.laidOut (by kernel_rfl) (of_decide_eq_true (by kernel_rfl)) h0 bel lt0) (trodAll_cons_mk (shut_int Tryz.underlying3 wm1) trodAll_mk0)), rfl, bel.frame _, fun h => by cases h⟩

theorem fordOwn_holds : Rows.FordOwnSaid :=
  OpenClaim.holds_of_wide 4 Tryz.f4 rfl rfl rfl rfl rfl rfl rfl ⟨rfl, rfl, rfl, rfl, rfl⟩ rfl rfl rfl rfl rfl (by kernel_rfl) Tryz.func4 (by kernel_rfl)
    (of_decide_eq_true (by kernel_rfl)) (by unfold Func.isWrapper; first | (rw [if_pos (by decide +kernel)]; kernel_rfl) | (rw [if_neg (by decide +kernel)]; exact ⟨rfl, rfl⟩))
    (fun os started H enc _ => fordOwn_lifted os started H enc)
end Go.Proofs.YtbipjdgholdhcabGreat
