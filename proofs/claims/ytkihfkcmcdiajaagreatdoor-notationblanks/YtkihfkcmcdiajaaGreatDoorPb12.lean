/- DERIVED. Plain mathematics and walks, laid together (12). -/
import Derived.Maps.AppendAt
import Derived.ProofKit
import Derived.Test.YtkihfkcmcdiajaaGreatDoorPb11
set_option maxRecDepth 100000
set_option maxHeartbeats 8000000
namespace Go.Proofs.YtkihfkcmcdiajaaGreatDoor.Q
open Go.RowKit
theorem Tryz.info5 : (Tryz.prog.info? 5).map (fun i => (i.zero, i.size, i.bytes)) = some (some (.int .u8 0), 1, 1) := by kernel_rfl
theorem zc4 {w : World} {base : Nat} {v : Value} {l : List Int} (h : w.ownsRow base 5 1 v l.length (l.map (Value.int .u8))) :
  (convert 84 9 v).run Tryz.prog w = .ok (.string (zaj l)) w := by
 have hc := h
 obtain ⟨hlen, h2⟩ := h
 rcases h2 with ⟨rfl, hn⟩ | ⟨g, cap, cur, rfl, _⟩
 ·obtain rfl : l = [] := List.eq_nil_of_length_eq_zero hn
  rw [run_convert_bytes_string w 84 9 5 _ _ _ Tryz.underlying84 Tryz.underlying5 Tryz.underlying9]
  rfl
 ·rw [run_convert_bytes_string w 84 9 5 _ _ _ Tryz.underlying84 Tryz.underlying5 Tryz.underlying9]
  refine run_bytesToString w ⟨g, 0, none⟩ l.length cap l ?_
  have := run_loadCells_list (P := Tryz.prog) (w := w) ⟨g, 0, none⟩ (l.map (Value.int .u8)) (hc.cells rfl)
  rwa [List.length_map] at this
structure FHolds (w : World) (b : Nat) (p q : Int) : Prop where
 lt : b < w.heap.size
 c0 : w.cell? ⟨b, 0, none⟩ = some (.int .i64 p)
 c1 : w.cell? ⟨b, 1, none⟩ = some (.int .i64 q)
 f0 : w.frozen? ⟨b, 0, none⟩ = false
 f1 : w.frozen? ⟨b, 1, none⟩ = false
theorem FHolds.below {B : Nat} {w w' : World} {b : Nat} {p q : Int} (h : FHolds w b p q) (hb : Below B w w') (hB : b < B) : FHolds w' b p q :=
 ⟨Nat.lt_of_lt_of_le h.lt hb.size, (hb.cell (p := ⟨b, 0, none⟩) hB).trans h.c0, (hb.cell (p := ⟨b, 1, none⟩) hB).trans h.c1, (hb.frozen (p := ⟨b, 0, none⟩) hB).trans h.f0, (hb.frozen (p := ⟨b, 1, none⟩) hB).trans h.f1⟩
theorem FHolds.new (w : World) (p q : Int) : FHolds (w.alloc (.cells #[.int .i64 p, .int .i64 q] 27)) w.heap.size p q := by
 constructor <;> simp [go_sem]
theorem FHolds.grown {w w' : World} {b : Nat} {p q : Int} {row : Option Nat} (h : FHolds w b p q) (hg : w.grownBy w' row) (hne : row = some b -> False) : FHolds w' b p q := by
 have e := hg.block b h.lt (fun e => hne e.symm)
 exact ⟨Nat.lt_of_lt_of_le h.lt hg.size, (World.cell?_of_block (a := ⟨b, 0, none⟩) e).trans h.c0, (World.cell?_of_block (a := ⟨b, 1, none⟩) e).trans h.c1,
  (World.frozen?_of_block (a := ⟨b, 0, none⟩) e).trans h.f0, (World.frozen?_of_block (a := ⟨b, 1, none⟩) e).trans h.f1⟩
theorem FHolds.alloc {w : World} {b : Nat} {p q : Int} (h : FHolds w b p q) (o : Obj) : FHolds (w.alloc o) b p q :=
 h.below (B := w.heap.size) ((Below.refl _ _).alloc (Nat.le_refl _) _) h.lt
theorem zcz {B : Nat} {w wr : World} {b : Nat} (hb : Below B w wr) (h : B <= b) (u v : Value) : Below B w ((wr.setCell ⟨b, 0, none⟩ u).setCell ⟨b, 1, none⟩ v) :=
 (hb.setCell (p := ⟨b, 0, none⟩) h _).setCell (p := ⟨b, 1, none⟩) h _
structure AtL (w wr : World) (v : Value) (l : List Int) : Prop where
 f : FHolds wr w.heap.size 0 0
 o : wr.ownsRow (w.heap.size + 1) 5 1 v l.length (l.map (Value.int .u8))
 b : Below w.heap.size w wr
theorem zfa (s : ByteArray) (i : Nat) (m : Int) (hm : 0 <= m) (hi : i <= s.size) (hs : s.size <= 65536) (w : World) :
  Calls Tryz.prog 147 #[.string s, .int .i64 i, .int .u8 m] w fun e w' => e = .returned (cuV (za9 s m (s.size + 1) i [])) /\ Below w.heap.size w w' := by
 obtain ⟨i0, hinf, hz0, hz1, hz2⟩ := info_parts Tryz.info5
 generalize hR : za9 s m (s.size + 1) i [] = R
 have HR := hO hR
 clear hR
 have HF := hO (FHolds.new w 0 0)
 have HB := hO ((Below.refl w.heap.size w).alloc (Nat.le_refl _) (.cells #[.int .i64 0, .int .i64 0] 27))
 go_enter Tryz.func147, Tryz.ntmps147
 go_wp2_with fail
 go_loopw [1, 9] (fun t v wr => ∃ k : Nat, ∃ f : Nat, ∃ l : List Int, k <= s.size /\ t = .int .i64 k /\ l.length <= k /\ Hid (s.size + 1 <= f + k) /\ Hid (za9 s m f k l = R) /\ Hid (AtL w wr v l)) (fun t _ _ => s.size - (intOf t).toNat)
 case atStart => exact ⟨i, s.size + 1, [], hi, by go_num, by simp, show _ <= _ by omega, HR, ⟨HF.out, World.ownsRow_nil _ _ _ _, HB.out⟩⟩
 case round =>
  obtain ⟨k, f, l, hk, rfl, hl, hf, hr, ha⟩ := hrel
  obtain ⟨g, rfl⟩ : ∃ g, f = g + 1 := ⟨f - 1, by have h := hf.out; omega⟩
  clear HR HF HB
  have hlt : w.heap.size < wr.heap.size := ha.out.f.lt
  by_cases hks : k < s.size
  ·have hb := znH hks
   have HC := hO (zal hks)
   by_cases hm1 : chr s k = m
   ·have hr' : Hid (R = .inl (l, k + 1)) := (hr.out.symm.trans (zfq hm1))
    have em : ((s[k].toNat : Int) == m) = true := beq_iff_eq.2 (by rw [<- HC.out]; exact hm1)
    have ht := zc4 ha.out.o
    clear hr hf hm1 hb HC
    obtain ⟨_, c0, c1, f0, f1⟩ := ha.out.f
    go_wp2_with fail
    rw [hr'.out]
    refine bodyPost_ret (v := cuV (.inl (l, k + 1))) (by simp [results, Tryz.results147, go_sem, cuV, *]) rfl ⟨rfl, ?_⟩
    exact zcz ha.out.b (Nat.le_refl _) _ _
   ·have em : ((s[k].toNat : Int) == m) = false := bF (by rw [<- HC.out]; exact hm1)
    have HRB : Hid (∀ w, Calls Tryz.prog 159 #[.string s, .int .i64 k] w fun e w' => e = .returned (byV (zaX s k)) /\ w' = w) := fun w => zgC s k hks (by omega) w
    cases hq : zaX s k with
    | inr pq =>
     obtain ⟨a, c⟩ := pq
     obtain ⟨rfl, hc⟩ := ziO hq
     have hr' : Hid (R = .inr (k, c)) := (hr.out.symm.trans (ziQ hm1 hks hq))
     have hc0 : (c != 0) = true := bne_iff_ne.2 (by omega)
     rw [hq] at HRB
     dsimp only [byV] at HRB
     clear hr hf hm1 hb HC hq hc
     obtain ⟨_, c0, c1, f0, f1⟩ := ha.out.f
     go_wp2_with fail
     refine (HRB.out _).mono ?_
     rintro e w1 ⟨rfl, rfl⟩
     go_wp2_with fail
     rw [hr'.out]
     refine bodyPost_ret (v := cuV (.inr (k, c))) (by simp [results, Tryz.results147, go_sem, cuV, *]) rfl ⟨rfl, ?_⟩
     exact zcz ha.out.b (Nat.le_refl _) _ _
    | inl p =>
     obtain ⟨b, n⟩ := p
     obtain ⟨b0, b1, b2, b3⟩ := zgv hq
     have hr' : Hid (za9 s m g n (l ++ [b]) = R) := ((zeJ hm1 hks hq).symm.trans hr.out)
     have hf' : Hid (s.size + 1 <= g + n) := (by have h := hf.out; show _ <= _; omega)
     rw [hq] at HRB
     dsimp only [byV] at HRB
     clear hr hf hm1 hb HC hq
     have hO1 := ha.out.o
     go_wp2_with fail
     refine (HRB.out _).mono ?_
     rintro e w1 ⟨rfl, rfl⟩
     go_wp2_with (at_builtin; refine wpList_append_own _ rfl _ _ 84 rfl (w.heap.size + 1) 5 i0 (.int .u8 0) 1 1 Tryz.underlying84 hinf hz0 hz1 hz2 rfl (by decide) _ _ _ rfl (hO1.alloc _) ⟨w1.heap.size, 0, none⟩ 1 1 [.int .u8 b] rfl rfl (cell_one_new _ _ _) ?c2 ?c3 ?c4 ?c5 ?_)
     case c2 => intro u hu; simp at hu; subst hu; rfl
     case c3 => unfold maxLen; omega
     case c4 => omega
     case c5 => simp; omega
     intro v' w2 hown' hgrow _
     have hle := fun j e => (hO1.lt j e).1
     have HA2 := (show Hid (AtL w w2 v' (l ++ [b])) from (by
      refine ⟨(ha.out.f.alloc (.cells #[.int .u8 b] 5)).grown hgrow (fun e => by have := hle _ e; omega), ?_, (ha.out.b.alloc (by omega) (.cells #[.int .u8 b] 5)).grown hgrow (by simp; omega) (fun j e => by have := hle j e; omega)⟩
      rw [List.length_append, List.map_append]
      exact hown'))
     clear hO1 hown' hgrow hle ha
     go_wp2
     go_roundw
     case rel => exact ⟨n, g, l ++ [b], b3, rfl, by simp; omega, hf', hr', HA2⟩
     case measure => simp [intOf]; omega
  ·have hr' : Hid (R = .inr (k, 22)) := (hr.out.symm.trans ((ziP (by omega) hm).trans (by rw [show k = s.size from by omega])))
   clear hr hf
   obtain ⟨_, c0, c1, f0, f1⟩ := ha.out.f
   go_wp2_with fail
   rw [hr'.out]
   refine bodyPost_ret (v := cuV (.inr (k, 22))) (by simp [results, Tryz.results147, go_sem, cuV, *]) rfl ⟨rfl, ?_⟩
   exact zcz ha.out.b (Nat.le_refl _) _ _
theorem zph (s : ByteArray) (i : Int) (w : World) :
  Calls Tryz.prog 132 #[.string s, .int .i64 i] w fun e w' => e = .returned (cuV (zb7 s i)) /\ Below w.heap.size w w' := by
 have HF := hO (FHolds.new w 0 0)
 have HB := hO ((Below.refl w.heap.size w).alloc (Nat.le_refl _) (.cells #[.int .i64 0, .int .i64 0] 27))
 have HP : Hid (∀ w, Calls Tryz.prog 145 #[.string s, .int .i64 i] w fun e w' => e = .returned (.int .i64 (cpE s i)) /\ w' = w) := fun w => ze9 s i w
 by_cases hcp : cpE s i = 0
 ·have hc : ¬ 65536 < s.size /\ ¬ (i < 0 ∨ (s.size : Int) < i) := by
   unfold cpE at hcp; split at hcp
   ·omega
   ·split at hcp
    ·omega
    ·next a b => exact ⟨a, b⟩
  obtain ⟨h1, h2⟩ := hc
  have h0 : 0 <= i := by omega
  obtain ⟨n, rfl⟩ := Int.eq_ofNat_of_zero_le h0
  have HE : Hid (zb7 s (n : Int) = if chr s n = 39 ∨ chr s n = 34 then za9 s (chr s n) (s.size + 1) (n + 1) [] else .inr (n, 20)) := (by show zb7 s (n : Int) = _; unfold zb7; rw [if_neg h1, if_neg h2, Int.toNat_natCast])
  rw [hcp] at HP
  clear hcp
  by_cases hn : n < s.size
  ·have hnI : (n : Int) < (s.size : Int) := by omega
   have en : ((n : Int) == (s.size : Int)) = false := bF (by omega)
   have HC := hO (zal hn)
   have hb := znH hn
   rw [HC.out] at hb
   have HM : Hid (∀ w, Calls Tryz.prog 146 #[.int .u8 (s[n].toNat : Int)] w fun e w' => e = .returned (.bool (mkB (s[n].toNat : Int))) /\ w' = w) := fun w => ziZ _ w
   cases hmk : mkB (s[n].toNat : Int)
   ·have HG := (show Hid (zb7 s (n : Int) = .inr (n, 20)) from (by
     show zb7 s (n : Int) = _
     rw [HE.out, if_neg]
     rw [HC.out]
     unfold mkB at hmk
     simp at hmk
     omega))
    rw [hmk] at HM
    clear HE hmk HC
    go_enter Tryz.func132, Tryz.ntmps132
    go_wp2_with fail
    refine (HP.out _).mono ?_
    rintro e w1 ⟨rfl, rfl⟩
    go_wp2_with fail
    refine (HM.out _).mono ?_
    rintro e w1 ⟨rfl, rfl⟩
    obtain ⟨_, c0, c1, f0, f1⟩ := HF.out
    go_wp2_with fail
    rw [HG.out]
    refine bodyPost_ret (v := cuV (.inr (n, 20))) (by simp [results, Tryz.results132, go_sem, cuV, *]) rfl ⟨rfl, ?_⟩
    exact (Below.refl _ _).alloc (Nat.le_refl _) _
   ·have HG := (show Hid (zb7 s (n : Int) = za9 s (s[n].toNat : Int) (s.size + 1) (n + 1) []) from (by
     show zb7 s (n : Int) = _
     rw [HE.out, if_pos]
     ·rw [HC.out]
     ·rw [HC.out]
      unfold mkB at hmk
      simp at hmk
      omega))
    have HR : Hid (∀ w, Calls Tryz.prog 147 #[.string s, .int .i64 ((n : Int) + 1), .int .u8 (s[n].toNat : Int)] w fun e w' => e = .returned (cuV (za9 s (s[n].toNat : Int) (s.size + 1) (n + 1) [])) /\ Below w.heap.size w w') := fun w => zfa s (n + 1) _ (by omega) (by omega) (by omega) w
    rw [hmk] at HM
    rw [<- HG.out] at HR
    clear HE hmk HC HG
    generalize zb7 s (n : Int) = R at *
    go_enter Tryz.func132, Tryz.ntmps132
    go_wp2_with fail
    refine (HP.out _).mono ?_
    rintro e w1 ⟨rfl, rfl⟩
    go_wp2_with fail
    refine (HM.out _).mono ?_
    rintro e w1 ⟨rfl, rfl⟩
    go_wp2_with fail
    refine (HR.out _).mono ?_
    rintro e w2 ⟨rfl, hb2⟩
    have HF2 := hO (HF.out.below hb2 HF.out.lt)
    have HB2 := hO (HB.out.trans (hb2.mono HB.out.size))
    have hl : w.heap.size < w2.heap.size := HF2.out.lt
    clear hb2 HR
    obtain ⟨_, c0, c1, f0, f1⟩ := HF2.out
    cases R with
    | inr pq =>
     obtain ⟨a, c⟩ := pq
     dsimp only [cuV]
     go_wp2_with fail
     refine bodyPost_ret (v := cuV (.inr (a, c))) (by simp [results, Tryz.results132, go_sem, cuV, *]) rfl ⟨rfl, ?_⟩
     exact zcz HB2.out (Nat.le_refl _) _ _
    | inl p =>
     obtain ⟨l, e⟩ := p
     dsimp only [cuV]
     go_wp2_with fail
     refine bodyPost_ret (v := cuV (.inl (l, e))) (by simp [results, Tryz.results132, go_sem, cuV, *]) rfl ⟨rfl, ?_⟩
     exact zcz HB2.out (Nat.le_refl _) _ _
  ·have hnI : ¬ (n : Int) < (s.size : Int) := by omega
   have en : ((n : Int) == (s.size : Int)) = true := beq_iff_eq.2 (by omega)
   have HG := (show Hid (zb7 s (n : Int) = .inr (n, 20)) from (by
    show zb7 s (n : Int) = _
    rw [HE.out, if_neg]
    rw [zat hn]
    omega))
   clear HE
   go_enter Tryz.func132, Tryz.ntmps132
   go_wp2_with fail
   refine (HP.out _).mono ?_
   rintro e w1 ⟨rfl, rfl⟩
   obtain ⟨_, c0, c1, f0, f1⟩ := HF.out
   go_wp2_with fail
   rw [HG.out]
   refine bodyPost_ret (v := cuV (.inr (n, 20))) (by simp [results, Tryz.results132, go_sem, cuV, *]) rfl ⟨rfl, ?_⟩
   exact (Below.refl _ _).alloc (Nat.le_refl _) _
 ·have HG := (show Hid (zb7 s i = .inr (0, (cpE s i))) from (by
   show zb7 s i = _
   unfold zb7 cpE at *
   split
   ·rfl
   ·next h =>
    rw [if_neg h] at hcp
    split
    ·rfl
    ·next h2 => rw [if_neg h2] at hcp; exact absurd rfl hcp))
  have ec : (cpE s i != 0) = true := bne_iff_ne.2 hcp
  clear hcp
  generalize cpE s i = c at *
  go_enter Tryz.func132, Tryz.ntmps132
  go_wp2_with fail
  refine (HP.out _).mono ?_
  rintro e w1 ⟨rfl, rfl⟩
  obtain ⟨_, c0, c1, f0, f1⟩ := HF.out
  go_wp2_with fail
  rw [HG.out]
  refine bodyPost_ret (v := cuV (.inr (0, c))) (by simp [results, Tryz.results132, go_sem, cuV, *]) rfl ⟨rfl, ?_⟩
  exact (Below.refl _ _).alloc (Nat.le_refl _) _
end Go.Proofs.YtkihfkcmcdiajaaGreatDoor.Q
namespace Go.Proofs.YtkihfkcmcdiajaaGreatDoor
open Go.RowKit
theorem zcY (s : ByteArray) (b : Nat) (hs : s.size <= 65536) (hb : b <= s.size) (hq : chr s b = 39 ∨ chr s b = 34) (w : World) : Calls Tryz.prog 105 #[.string s, .int .i64 b] w fun e w' => e = .returned (za2 (zbZ s b)) /\ Below w.heap.size w w' := by
 have HF : Hid (∀ i e w, Calls Tryz.prog 128 #[.int .i64 i, .int .i64 e] w fun e' w' => e' = .returned (zaN tk0 i e) /\ Below w.heap.size w w') := fun i e w => zaJ i e w
 have HC : Hid (∀ w, Calls Tryz.prog 132 #[.string s, .int .i64 b] w fun e w' => e = .returned (Q.cuV (Q.zb7 s b)) /\ Below w.heap.size w w') := fun w => Q.zph s b w
 have HX : Hid (BX w ((w.alloc (tkO tk0)).alloc (fxO 0 0)) tk0 0 0) := BX.new w
 have HU : Hid (zbZ s b = zkP s b (Q.zb7 s b)) := (zh2 s b hs hb hq).symm
 cases hr : Q.zb7 s b with
 | inr p =>
  obtain ⟨a, c⟩ := p
  obtain ⟨ha, hcc⟩ := zkR hs hb hq hr
  obtain ⟨a, rfl⟩ : ∃ k : Nat, a = k := ⟨a.toNat, by omega⟩
  rw [hr, zkP, Int.toNat_natCast] at HU
  rw [hr] at HC
  clear hr ha hq
  unfold Q.cuV at HC
  rcases hcc with rfl | rfl
  ·have HE : Hid (zbZ s b = .inr (a, 51)) := by show zbZ s b = _; rw [HU.out, if_pos rfl]
   clear HU
   go_enter Tryz.func105, Tryz.ntmps105
   go_wp2_with fail
   refine (HC.out _).mono ?_
   rintro e w2 ⟨rfl, b2⟩
   have HX2 : Hid (BX w (w2.alloc (fxO a 21)) tk0 0 0) := (HX.out.below b2).below (zaa _ _)
   clear b2 HX HC
   go_wp2_with fail
   refine (HF.out _ _ _).mono ?_
   rintro e w3 ⟨rfl, b3⟩
   have HX3 : Hid (BX w w3 tk0 0 0) := HX2.out.below b3
   clear b3 HX2 HF
   obtain ⟨f0, f1', f2', f3, f4, f5, f6, f7, f8, g0, g1⟩ := HX3.out.fz
   obtain ⟨c0, c1, c2, c3, c4, c5, c6, c7, c8, d0, d1⟩ := HX3.out.cells
   unfold zaN
   go_wp2_with fail
   have HP := HX3.out.put tk0 a 51
   exact zao rfl rfl rfl rfl HP ⟨by rw [HE.out]; rfl, HP.b⟩
  ·by_cases hlt : a < s.size
   ·have HE : Hid (zbZ s b = .inr (a, 50)) := by show zbZ s b = _; rw [HU.out, if_neg (by decide), if_pos ⟨rfl, by omega⟩]
    have z1 : (a : Int) < (s.size : Int) := by omega
    clear HU
    go_enter Tryz.func105, Tryz.ntmps105
    go_wp2_with fail
    refine (HC.out _).mono ?_
    rintro e w2 ⟨rfl, b2⟩
    have HX2 : Hid (BX w (w2.alloc (fxO a 22)) tk0 0 0) := (HX.out.below b2).below (zaa _ _)
    clear b2 HX HC
    go_wp2_with fail
    refine (HF.out _ _ _).mono ?_
    rintro e w3 ⟨rfl, b3⟩
    have HX3 : Hid (BX w w3 tk0 0 0) := HX2.out.below b3
    clear b3 HX2 HF
    obtain ⟨f0, f1', f2', f3, f4, f5, f6, f7, f8, g0, g1⟩ := HX3.out.fz
    obtain ⟨c0, c1, c2, c3, c4, c5, c6, c7, c8, d0, d1⟩ := HX3.out.cells
    unfold zaN
    go_wp2_with fail
    have HP := HX3.out.put tk0 a 50
    exact zao rfl rfl rfl rfl HP ⟨by rw [HE.out]; rfl, HP.b⟩
   ·have HE : Hid (zbZ s b = .inr (b, 52)) := by show zbZ s b = _; rw [HU.out, if_neg (by decide), if_neg (by omega)]
    have z1 : ¬ (a : Int) < (s.size : Int) := by omega
    clear HU
    go_enter Tryz.func105, Tryz.ntmps105
    go_wp2_with fail
    refine (HC.out _).mono ?_
    rintro e w2 ⟨rfl, b2⟩
    have HX2 : Hid (BX w (w2.alloc (fxO a 22)) tk0 0 0) := (HX.out.below b2).below (zaa _ _)
    clear b2 HX HC
    go_wp2_with fail
    refine (HF.out _ _ _).mono ?_
    rintro e w3 ⟨rfl, b3⟩
    have HX3 : Hid (BX w w3 tk0 0 0) := HX2.out.below b3
    clear b3 HX2 HF
    obtain ⟨f0, f1', f2', f3, f4, f5, f6, f7, f8, g0, g1⟩ := HX3.out.fz
    obtain ⟨c0, c1, c2, c3, c4, c5, c6, c7, c8, d0, d1⟩ := HX3.out.cells
    unfold zaN
    go_wp2_with fail
    have HP := HX3.out.put tk0 b 52
    exact zao rfl rfl rfl rfl HP ⟨by rw [HE.out]; rfl, HP.b⟩
 | inl p =>
  obtain ⟨l, n⟩ := p
  rw [hr, zkP] at HU
  rw [hr] at HC
  clear hr hq
  replace HC := (show Hid (∀ w, Calls Tryz.prog 132 #[.string s, .int .i64 b] w fun e w' => e = .returned (.tuple #[.string (zaj l), .int .i64 n, .agg #[.int .i64 0, .int .i64 0]]) /\ Below w.heap.size w w') from HC)
  have hsz : (zaj l).size = l.length := zaw l
  by_cases h255 : 255 < l.length
  ·have HE : Hid (zbZ s b = .inr (b, 2)) := by show zbZ s b = _; rw [HU.out, if_pos h255]
   have z1 : (255 : Int) < ((zaj l).size : Int) := by omega
   clear HU hsz h255
   generalize zaj l = t at *
   go_enter Tryz.func105, Tryz.ntmps105
   go_wp2_with fail
   refine (HC.out _).mono ?_
   rintro e w2 ⟨rfl, b2⟩
   have HX2 : Hid (BX w (w2.alloc (fxO 0 0)) tk0 0 0) := (HX.out.below b2).below (zaa _ _)
   clear b2 HX HC
   go_wp2_with fail
   refine (HF.out _ _ _).mono ?_
   rintro e w3 ⟨rfl, b3⟩
   have HX3 : Hid (BX w w3 tk0 0 0) := HX2.out.below b3
   clear b3 HX2 HF
   obtain ⟨f0, f1', f2', f3, f4, f5, f6, f7, f8, g0, g1⟩ := HX3.out.fz
   obtain ⟨c0, c1, c2, c3, c4, c5, c6, c7, c8, d0, d1⟩ := HX3.out.cells
   unfold zaN
   go_wp2_with fail
   have HP := HX3.out.put tk0 b 2
   exact zao rfl rfl rfl rfl HP ⟨by rw [HE.out]; rfl, HP.b⟩
  ·have HE : Hid (zbZ s b = .inl ⟨2, 0, b, n, zaj l, 0, 0, 0, 0⟩) := by show zbZ s b = _; rw [HU.out, if_neg h255]
   have z1 : ¬ (255 : Int) < ((zaj l).size : Int) := by omega
   clear HU hsz h255 HF
   generalize zaj l = t at *
   go_enter Tryz.func105, Tryz.ntmps105
   go_wp2_with fail
   refine (HC.out _).mono ?_
   rintro e w2 ⟨rfl, b2⟩
   have HX2 : Hid (BX w w2 tk0 0 0) := HX.out.below b2
   clear b2 HX HC
   obtain ⟨f0, f1', f2', f3, f4, f5, f6, f7, f8, g0, g1⟩ := HX2.out.fz
   obtain ⟨c0, c1, c2, c3, c4, c5, c6, c7, c8, d0, d1⟩ := HX2.out.cells
   have hsz2 := HX2.out.size
   have hl1 : w.heap.size < w2.heap.size := by omega
   have hne1 : w.heap.size ≠ w2.heap.size := by omega
   have hne2 : w.heap.size + 1 ≠ w2.heap.size := by omega
   go_wp2_with fail
   have HP := (HX2.out.put ⟨2, 0, b, n, t, 0, 0, 0, 0⟩ 0 0).below (zaa _ (fxO 0 0))
   exact zao rfl rfl rfl rfl HP ⟨by rw [HE.out]; rfl, HP.b⟩
def zaE (s : ByteArray) (b : Nat) : Sum Tk (Nat × Int) :=
 if hdB (chr s b) = true then zca s b else if dgB (chr s b) = true then nmR s b b 4 else if chr s b = 39 ∨ chr s b = 34 then zbZ s b
 else if chr s b = 91 then clT s b (zam s b) else if chr s b = 37 then zcy s b else zbr s b
theorem zpi (s : ByteArray) (b : Nat) (hs : s.size <= 65536) (hb : b < s.size) (h : hdB (chr s b) = true) (w : World) (hg : SG w) : Calls Tryz.prog 79 #[.string s, .int .i64 b] w fun e w' => e = .returned (za2 (zaE s b)) /\ Below w.heap.size w w' := by
 have HX : Hid (BX w ((w.alloc (tkO tk0)).alloc (fxO 0 0)) tk0 0 0) := BX.new w
 have HG : Hid (SG ((w.alloc (tkO tk0)).alloc (fxO 0 0))) := (hg.later (zaa _ _)).later (zaa _ _)
 have hc := zal hb
 have HH : Hid (∀ w, Calls Tryz.prog 101 #[.int .u8 (s[b].toNat : Int)] w fun e w' => e = .returned (.bool (hdB (chr s b))) /\ w' = w) := fun w => by rw [hc]; exact zaW _ w
 have HD : Hid (∀ w, Calls Tryz.prog 103 #[.int .u8 (s[b].toNat : Int)] w fun e w' => e = .returned (.bool (dgB (chr s b))) /\ w' = w) := fun w => by rw [hc]; exact zbc _ w
 have z0 : (0 : Int) <= (b : Int) := by omega
 have z1 : (b : Int) < (s.size : Int) := by omega
 clear hg
 have HN : Hid (∀ w, Calls Tryz.prog 102 #[.string s, .int .i64 b] w fun e w' => e = .returned (za2 (zca s b)) /\ Below w.heap.size w w') := fun w => zcV s b (by omega) (by omega) w
 have HE : Hid (zaE s b = zca s b) := by show zaE s b = _; unfold zaE; rw [if_pos h]
 rw [h] at HH
 clear HD HG hc h
 go_enter Tryz.func79, Tryz.ntmps79
 go_wp2_with fail
 refine (HH.out _).mono ?_
 rintro e w1 ⟨rfl, rfl⟩
 clear HH
 go_wp2_with fail
 refine (HN.out _).mono ?_
 rintro e w3 ⟨rfl, b3⟩
 have HX3 : Hid (BX w w3 tk0 0 0) := HX.out.below b3
 clear b3 HX HN
 obtain ⟨f0, f1', f2', f3, f4, f5, f6, f7, f8, g0, g1⟩ := HX3.out.fz
 obtain ⟨c0, c1, c2, c3, c4, c5, c6, c7, c8, d0, d1⟩ := HX3.out.cells
 generalize zca s b = r at *
 cases r with
 | inl t =>
  unfold za2
  go_wp2_with fail
  have HP := HX3.out.put t 0 0
  exact zao rfl rfl rfl rfl HP ⟨by rw [HE.out]; rfl, HP.b⟩
 | inr q =>
  unfold za2
  go_wp2_with fail
  have HP := HX3.out.put tk0 q.1 q.2
  exact zao rfl rfl rfl rfl HP ⟨by rw [HE.out]; rfl, HP.b⟩
theorem rt_num (s : ByteArray) (b : Nat) (hs : s.size <= 65536) (hb : b < s.size) (h : hdB (chr s b) = false) (h2 : dgB (chr s b) = true) (w : World) (hg : SG w) : Calls Tryz.prog 79 #[.string s, .int .i64 b] w fun e w' => e = .returned (za2 (zaE s b)) /\ Below w.heap.size w w' := by
 have HX : Hid (BX w ((w.alloc (tkO tk0)).alloc (fxO 0 0)) tk0 0 0) := BX.new w
 have HG : Hid (SG ((w.alloc (tkO tk0)).alloc (fxO 0 0))) := (hg.later (zaa _ _)).later (zaa _ _)
 have hc := zal hb
 have HH : Hid (∀ w, Calls Tryz.prog 101 #[.int .u8 (s[b].toNat : Int)] w fun e w' => e = .returned (.bool (hdB (chr s b))) /\ w' = w) := fun w => by rw [hc]; exact zaW _ w
 have HD : Hid (∀ w, Calls Tryz.prog 103 #[.int .u8 (s[b].toNat : Int)] w fun e w' => e = .returned (.bool (dgB (chr s b))) /\ w' = w) := fun w => by rw [hc]; exact zbc _ w
 have z0 : (0 : Int) <= (b : Int) := by omega
 have z1 : (b : Int) < (s.size : Int) := by omega
 clear hg
 have HN : Hid (∀ w, Calls Tryz.prog 104 #[.string s, .int .i64 b, .int .i64 b, .int .i64 4] w fun e w' => e = .returned (za2 (nmR s b b 4)) /\ Below w.heap.size w w') := fun w => zbK s b b 4 (by omega) (by omega) (by omega) w
 have HE : Hid (zaE s b = nmR s b b 4) := by show zaE s b = _; unfold zaE; rw [if_neg (by rw [h]; decide), if_pos h2]
 rw [h] at HH
 rw [h2] at HD
 clear HG hc h h2
 go_enter Tryz.func79, Tryz.ntmps79
 go_wp2_with fail
 refine (HH.out _).mono ?_
 rintro e w1 ⟨rfl, rfl⟩
 clear HH
 go_wp2_with fail
 refine (HD.out _).mono ?_
 rintro e w1 ⟨rfl, rfl⟩
 clear HD
 go_wp2_with fail
 refine (HN.out _).mono ?_
 rintro e w3 ⟨rfl, b3⟩
 have HX3 : Hid (BX w w3 tk0 0 0) := HX.out.below b3
 clear b3 HX HN
 obtain ⟨f0, f1', f2', f3, f4, f5, f6, f7, f8, g0, g1⟩ := HX3.out.fz
 obtain ⟨c0, c1, c2, c3, c4, c5, c6, c7, c8, d0, d1⟩ := HX3.out.cells
 generalize nmR s b b 4 = r at *
 cases r with
 | inl t =>
  unfold za2
  go_wp2_with fail
  have HP := HX3.out.put t 0 0
  exact zao rfl rfl rfl rfl HP ⟨by rw [HE.out]; rfl, HP.b⟩
 | inr q =>
  unfold za2
  go_wp2_with fail
  have HP := HX3.out.put tk0 q.1 q.2
  exact zao rfl rfl rfl rfl HP ⟨by rw [HE.out]; rfl, HP.b⟩
theorem zpj (s : ByteArray) (b : Nat) (hs : s.size <= 65536) (hb : b < s.size) (h : hdB (chr s b) = false) (h2 : dgB (chr s b) = false) (h3 : chr s b = 39) (w : World) (hg : SG w) : Calls Tryz.prog 79 #[.string s, .int .i64 b] w fun e w' => e = .returned (za2 (zaE s b)) /\ Below w.heap.size w w' := by
 have HX : Hid (BX w ((w.alloc (tkO tk0)).alloc (fxO 0 0)) tk0 0 0) := BX.new w
 have HG : Hid (SG ((w.alloc (tkO tk0)).alloc (fxO 0 0))) := (hg.later (zaa _ _)).later (zaa _ _)
 have hc := zal hb
 have HH : Hid (∀ w, Calls Tryz.prog 101 #[.int .u8 (s[b].toNat : Int)] w fun e w' => e = .returned (.bool (hdB (chr s b))) /\ w' = w) := fun w => by rw [hc]; exact zaW _ w
 have HD : Hid (∀ w, Calls Tryz.prog 103 #[.int .u8 (s[b].toNat : Int)] w fun e w' => e = .returned (.bool (dgB (chr s b))) /\ w' = w) := fun w => by rw [hc]; exact zbc _ w
 have z0 : (0 : Int) <= (b : Int) := by omega
 have z1 : (b : Int) < (s.size : Int) := by omega
 clear hg
 have HN : Hid (∀ w, Calls Tryz.prog 105 #[.string s, .int .i64 b] w fun e w' => e = .returned (za2 (zbZ s b)) /\ Below w.heap.size w w') := fun w => zcY s b hs (by omega) (.inl h3) w
 have HE : Hid (zaE s b = zbZ s b) := by show zaE s b = _; unfold zaE; rw [if_neg (by rw [h]; decide), if_neg (by rw [h2]; decide), if_pos (.inl h3)]
 rw [h] at HH
 rw [h2] at HD
 have v1 : ((s[b].toNat : Int) == 39) = true := by rw [<- hc, h3]; rfl
 clear h3
 clear hc h h2 HG
 go_enter Tryz.func79, Tryz.ntmps79
 go_wp2_with fail
 refine (HH.out _).mono ?_
 rintro e w1 ⟨rfl, rfl⟩
 clear HH
 go_wp2_with fail
 refine (HD.out _).mono ?_
 rintro e w1 ⟨rfl, rfl⟩
 clear HD
 go_wp2_with fail
 refine (HN.out _).mono ?_
 rintro e w3 ⟨rfl, b3⟩
 have HX3 : Hid (BX w w3 tk0 0 0) := HX.out.below b3
 clear b3 HX HN
 obtain ⟨f0, f1', f2', f3, f4, f5, f6, f7, f8, g0, g1⟩ := HX3.out.fz
 obtain ⟨c0, c1, c2, c3, c4, c5, c6, c7, c8, d0, d1⟩ := HX3.out.cells
 generalize zbZ s b = r at *
 cases r with
 | inl t =>
  unfold za2
  go_wp2_with fail
  have HP := HX3.out.put t 0 0
  exact zao rfl rfl rfl rfl HP ⟨by rw [HE.out]; rfl, HP.b⟩
 | inr q =>
  unfold za2
  go_wp2_with fail
  have HP := HX3.out.put tk0 q.1 q.2
  exact zao rfl rfl rfl rfl HP ⟨by rw [HE.out]; rfl, HP.b⟩
theorem zpk (s : ByteArray) (b : Nat) (hs : s.size <= 65536) (hb : b < s.size) (h : hdB (chr s b) = false) (h2 : dgB (chr s b) = false) (h3 : chr s b = 34) (w : World) (hg : SG w) : Calls Tryz.prog 79 #[.string s, .int .i64 b] w fun e w' => e = .returned (za2 (zaE s b)) /\ Below w.heap.size w w' := by
 have HX : Hid (BX w ((w.alloc (tkO tk0)).alloc (fxO 0 0)) tk0 0 0) := BX.new w
 have HG : Hid (SG ((w.alloc (tkO tk0)).alloc (fxO 0 0))) := (hg.later (zaa _ _)).later (zaa _ _)
 have hc := zal hb
 have HH : Hid (∀ w, Calls Tryz.prog 101 #[.int .u8 (s[b].toNat : Int)] w fun e w' => e = .returned (.bool (hdB (chr s b))) /\ w' = w) := fun w => by rw [hc]; exact zaW _ w
 have HD : Hid (∀ w, Calls Tryz.prog 103 #[.int .u8 (s[b].toNat : Int)] w fun e w' => e = .returned (.bool (dgB (chr s b))) /\ w' = w) := fun w => by rw [hc]; exact zbc _ w
 have z0 : (0 : Int) <= (b : Int) := by omega
 have z1 : (b : Int) < (s.size : Int) := by omega
 clear hg
 have HN : Hid (∀ w, Calls Tryz.prog 105 #[.string s, .int .i64 b] w fun e w' => e = .returned (za2 (zbZ s b)) /\ Below w.heap.size w w') := fun w => zcY s b hs (by omega) (.inr h3) w
 have HE : Hid (zaE s b = zbZ s b) := by show zaE s b = _; unfold zaE; rw [if_neg (by rw [h]; decide), if_neg (by rw [h2]; decide), if_pos (.inr h3)]
 rw [h] at HH
 rw [h2] at HD
 have v1 : ((s[b].toNat : Int) == 39) = false := by rw [<- hc, h3]; rfl
 have v2 : ((s[b].toNat : Int) == 34) = true := by rw [<- hc, h3]; rfl
 clear h3
 clear hc h h2 HG
 go_enter Tryz.func79, Tryz.ntmps79
 go_wp2_with fail
 refine (HH.out _).mono ?_
 rintro e w1 ⟨rfl, rfl⟩
 clear HH
 go_wp2_with fail
 refine (HD.out _).mono ?_
 rintro e w1 ⟨rfl, rfl⟩
 clear HD
 go_wp2_with fail
 refine (HN.out _).mono ?_
 rintro e w3 ⟨rfl, b3⟩
 have HX3 : Hid (BX w w3 tk0 0 0) := HX.out.below b3
 clear b3 HX HN
 obtain ⟨f0, f1', f2', f3, f4, f5, f6, f7, f8, g0, g1⟩ := HX3.out.fz
 obtain ⟨c0, c1, c2, c3, c4, c5, c6, c7, c8, d0, d1⟩ := HX3.out.cells
 generalize zbZ s b = r at *
 cases r with
 | inl t =>
  unfold za2
  go_wp2_with fail
  have HP := HX3.out.put t 0 0
  exact zao rfl rfl rfl rfl HP ⟨by rw [HE.out]; rfl, HP.b⟩
 | inr q =>
  unfold za2
  go_wp2_with fail
  have HP := HX3.out.put tk0 q.1 q.2
  exact zao rfl rfl rfl rfl HP ⟨by rw [HE.out]; rfl, HP.b⟩
theorem rt_cls (s : ByteArray) (b : Nat) (hs : s.size <= 65536) (hb : b < s.size) (h : hdB (chr s b) = false) (h2 : dgB (chr s b) = false) (h3 : chr s b = 91) (w : World) (hg : SG w) : Calls Tryz.prog 79 #[.string s, .int .i64 b] w fun e w' => e = .returned (za2 (zaE s b)) /\ Below w.heap.size w w' := by
 have HX : Hid (BX w ((w.alloc (tkO tk0)).alloc (fxO 0 0)) tk0 0 0) := BX.new w
 have HG : Hid (SG ((w.alloc (tkO tk0)).alloc (fxO 0 0))) := (hg.later (zaa _ _)).later (zaa _ _)
 have hc := zal hb
 have HH : Hid (∀ w, Calls Tryz.prog 101 #[.int .u8 (s[b].toNat : Int)] w fun e w' => e = .returned (.bool (hdB (chr s b))) /\ w' = w) := fun w => by rw [hc]; exact zaW _ w
 have HD : Hid (∀ w, Calls Tryz.prog 103 #[.int .u8 (s[b].toNat : Int)] w fun e w' => e = .returned (.bool (dgB (chr s b))) /\ w' = w) := fun w => by rw [hc]; exact zbc _ w
 have z0 : (0 : Int) <= (b : Int) := by omega
 have z1 : (b : Int) < (s.size : Int) := by omega
 clear hg
 have HN : Hid (∀ w, Calls Tryz.prog 106 #[.string s, .int .i64 b] w fun e w' => e = .returned (za2 (clT s b (zam s b))) /\ Below w.heap.size w w') := fun w => zhm s b (by omega) w
 have HE : Hid (zaE s b = clT s b (zam s b)) := by show zaE s b = _; unfold zaE; rw [if_neg (by rw [h]; decide), if_neg (by rw [h2]; decide), if_neg (by omega), if_pos h3]
 rw [h] at HH
 rw [h2] at HD
 have v1 : ((s[b].toNat : Int) == 39) = false := by rw [<- hc, beq_eq_false_iff_ne]; omega
 have v2 : ((s[b].toNat : Int) == 34) = false := by rw [<- hc, beq_eq_false_iff_ne]; omega
 have v3 : ((s[b].toNat : Int) == 91) = true := by rw [<- hc, h3]; rfl
 clear h3
 clear hc h h2 HG
 go_enter Tryz.func79, Tryz.ntmps79
 go_wp2_with fail
 refine (HH.out _).mono ?_
 rintro e w1 ⟨rfl, rfl⟩
 clear HH
 go_wp2_with fail
 refine (HD.out _).mono ?_
 rintro e w1 ⟨rfl, rfl⟩
 clear HD
 go_wp2_with fail
 refine (HN.out _).mono ?_
 rintro e w3 ⟨rfl, b3⟩
 have HX3 : Hid (BX w w3 tk0 0 0) := HX.out.below b3
 clear b3 HX HN
 obtain ⟨f0, f1', f2', f3, f4, f5, f6, f7, f8, g0, g1⟩ := HX3.out.fz
 obtain ⟨c0, c1, c2, c3, c4, c5, c6, c7, c8, d0, d1⟩ := HX3.out.cells
 generalize clT s b (zam s b) = r at *
 cases r with
 | inl t =>
  unfold za2
  go_wp2_with fail
  have HP := HX3.out.put t 0 0
  exact zao rfl rfl rfl rfl HP ⟨by rw [HE.out]; rfl, HP.b⟩
 | inr q =>
  unfold za2
  go_wp2_with fail
  have HP := HX3.out.put tk0 q.1 q.2
  exact zao rfl rfl rfl rfl HP ⟨by rw [HE.out]; rfl, HP.b⟩
theorem rt_pct (s : ByteArray) (b : Nat) (hs : s.size <= 65536) (hb : b < s.size) (h : hdB (chr s b) = false) (h2 : dgB (chr s b) = false) (h3 : chr s b = 37) (w : World) (hg : SG w) : Calls Tryz.prog 79 #[.string s, .int .i64 b] w fun e w' => e = .returned (za2 (zaE s b)) /\ Below w.heap.size w w' := by
 have HX : Hid (BX w ((w.alloc (tkO tk0)).alloc (fxO 0 0)) tk0 0 0) := BX.new w
 have HG : Hid (SG ((w.alloc (tkO tk0)).alloc (fxO 0 0))) := (hg.later (zaa _ _)).later (zaa _ _)
 have hc := zal hb
 have HH : Hid (∀ w, Calls Tryz.prog 101 #[.int .u8 (s[b].toNat : Int)] w fun e w' => e = .returned (.bool (hdB (chr s b))) /\ w' = w) := fun w => by rw [hc]; exact zaW _ w
 have HD : Hid (∀ w, Calls Tryz.prog 103 #[.int .u8 (s[b].toNat : Int)] w fun e w' => e = .returned (.bool (dgB (chr s b))) /\ w' = w) := fun w => by rw [hc]; exact zbc _ w
 have z0 : (0 : Int) <= (b : Int) := by omega
 have z1 : (b : Int) < (s.size : Int) := by omega
 clear hg
 have HN : Hid (∀ w, SG w -> Calls Tryz.prog 107 #[.string s, .int .i64 b] w fun e w' => e = .returned (za2 (zcy s b)) /\ Below w.heap.size w w') := fun w g => zeP s b (by omega) (by omega) w g
 have HE : Hid (zaE s b = zcy s b) := by show zaE s b = _; unfold zaE; rw [if_neg (by rw [h]; decide), if_neg (by rw [h2]; decide), if_neg (by omega), if_neg (by omega), if_pos h3]
 rw [h] at HH
 rw [h2] at HD
 have v1 : ((s[b].toNat : Int) == 39) = false := by rw [<- hc, beq_eq_false_iff_ne]; omega
 have v2 : ((s[b].toNat : Int) == 34) = false := by rw [<- hc, beq_eq_false_iff_ne]; omega
 have v3 : ((s[b].toNat : Int) == 91) = false := by rw [<- hc, h3]; rfl
 have v4 : ((s[b].toNat : Int) == 37) = true := by rw [<- hc, h3]; rfl
 clear h3
 clear hc h h2
 go_enter Tryz.func79, Tryz.ntmps79
 go_wp2_with fail
 refine (HH.out _).mono ?_
 rintro e w1 ⟨rfl, rfl⟩
 clear HH
 go_wp2_with fail
 refine (HD.out _).mono ?_
 rintro e w1 ⟨rfl, rfl⟩
 clear HD
 go_wp2_with fail
 refine (HN.out _ HG.out).mono ?_
 rintro e w3 ⟨rfl, b3⟩
 have HX3 : Hid (BX w w3 tk0 0 0) := HX.out.below b3
 clear b3 HX HN HG
 obtain ⟨f0, f1', f2', f3, f4, f5, f6, f7, f8, g0, g1⟩ := HX3.out.fz
 obtain ⟨c0, c1, c2, c3, c4, c5, c6, c7, c8, d0, d1⟩ := HX3.out.cells
 generalize zcy s b = r at *
 cases r with
 | inl t =>
  unfold za2
  go_wp2_with fail
  have HP := HX3.out.put t 0 0
  exact zao rfl rfl rfl rfl HP ⟨by rw [HE.out]; rfl, HP.b⟩
 | inr q =>
  unfold za2
  go_wp2_with fail
  have HP := HX3.out.put tk0 q.1 q.2
  exact zao rfl rfl rfl rfl HP ⟨by rw [HE.out]; rfl, HP.b⟩
theorem rt_sgn (s : ByteArray) (b : Nat) (hs : s.size <= 65536) (hb : b < s.size) (h : hdB (chr s b) = false) (h2 : dgB (chr s b) = false) (h3 : ¬ chr s b = 39) (h4 : ¬ chr s b = 34) (h5 : ¬ chr s b = 91) (h6 : ¬ chr s b = 37) (w : World) (hg : SG w) : Calls Tryz.prog 79 #[.string s, .int .i64 b] w fun e w' => e = .returned (za2 (zaE s b)) /\ Below w.heap.size w w' := by
 have HX : Hid (BX w ((w.alloc (tkO tk0)).alloc (fxO 0 0)) tk0 0 0) := BX.new w
 have HG : Hid (SG ((w.alloc (tkO tk0)).alloc (fxO 0 0))) := (hg.later (zaa _ _)).later (zaa _ _)
 have hc := zal hb
 have HH : Hid (∀ w, Calls Tryz.prog 101 #[.int .u8 (s[b].toNat : Int)] w fun e w' => e = .returned (.bool (hdB (chr s b))) /\ w' = w) := fun w => by rw [hc]; exact zaW _ w
 have HD : Hid (∀ w, Calls Tryz.prog 103 #[.int .u8 (s[b].toNat : Int)] w fun e w' => e = .returned (.bool (dgB (chr s b))) /\ w' = w) := fun w => by rw [hc]; exact zbc _ w
 have z0 : (0 : Int) <= (b : Int) := by omega
 have z1 : (b : Int) < (s.size : Int) := by omega
 clear hg
 have HN : Hid (∀ w, SG w -> Calls Tryz.prog 108 #[.string s, .int .i64 b] w fun e w' => e = .returned (za2 (zbr s b)) /\ Below w.heap.size w w') := fun w g => zd7 s b (by omega) (by omega) w g
 have HE : Hid (zaE s b = zbr s b) := by show zaE s b = _; unfold zaE; rw [if_neg (by rw [h]; decide), if_neg (by rw [h2]; decide), if_neg (by omega), if_neg h5, if_neg h6]
 rw [h] at HH
 rw [h2] at HD
 have v1 : ((s[b].toNat : Int) == 39) = false := by rw [<- hc, beq_eq_false_iff_ne]; omega
 have v2 : ((s[b].toNat : Int) == 34) = false := by rw [<- hc, beq_eq_false_iff_ne]; omega
 have v3 : ((s[b].toNat : Int) == 91) = false := by rw [<- hc, beq_eq_false_iff_ne]; exact h5
 have v4 : ((s[b].toNat : Int) == 37) = false := by rw [<- hc, beq_eq_false_iff_ne]; exact h6
 clear h3 h4 h5 h6
 clear hc h h2
 go_enter Tryz.func79, Tryz.ntmps79
 go_wp2_with fail
 refine (HH.out _).mono ?_
 rintro e w1 ⟨rfl, rfl⟩
 clear HH
 go_wp2_with fail
 refine (HD.out _).mono ?_
 rintro e w1 ⟨rfl, rfl⟩
 clear HD
 go_wp2_with fail
 refine (HN.out _ HG.out).mono ?_
 rintro e w3 ⟨rfl, b3⟩
 have HX3 : Hid (BX w w3 tk0 0 0) := HX.out.below b3
 clear b3 HX HN HG
 obtain ⟨f0, f1', f2', f3, f4, f5, f6, f7, f8, g0, g1⟩ := HX3.out.fz
 obtain ⟨c0, c1, c2, c3, c4, c5, c6, c7, c8, d0, d1⟩ := HX3.out.cells
 generalize zbr s b = r at *
 cases r with
 | inl t =>
  unfold za2
  go_wp2_with fail
  have HP := HX3.out.put t 0 0
  exact zao rfl rfl rfl rfl HP ⟨by rw [HE.out]; rfl, HP.b⟩
 | inr q =>
  unfold za2
  go_wp2_with fail
  have HP := HX3.out.put tk0 q.1 q.2
  exact zao rfl rfl rfl rfl HP ⟨by rw [HE.out]; rfl, HP.b⟩
theorem zf7 (s : ByteArray) (b : Nat) (hs : s.size <= 65536) (hb : b < s.size) (w : World) (hg : SG w) : Calls Tryz.prog 79 #[.string s, .int .i64 b] w fun e w' => e = .returned (za2 (zaE s b)) /\ Below w.heap.size w w' := by
 cases h : hdB (chr s b) with
 | true => exact zpi s b hs hb h w hg
 | false =>
  cases h2 : dgB (chr s b) with
  | true => exact rt_num s b hs hb h h2 w hg
  | false =>
   by_cases h3 : chr s b = 39
   ·exact zpj s b hs hb h h2 h3 w hg
   by_cases h4 : chr s b = 34
   ·exact zpk s b hs hb h h2 h4 w hg
   by_cases h5 : chr s b = 91
   ·exact rt_cls s b hs hb h h2 h5 w hg
   by_cases h6 : chr s b = 37
   ·exact rt_pct s b hs hb h h2 h6 w hg
   ·exact rt_sgn s b hs hb h h2 h3 h4 h5 h6 w hg
theorem zgD (s : ByteArray) : ∀ (f g i : Nat), s.size - i < f -> s.size - i < g -> zfl s f i = zfl s g i := by
 intro f
 induction f with
 | zero => intro g i h; omega
 | succ f ih =>
  intro g i h1 h2
  obtain ⟨g, rfl⟩ : ∃ k, g = k + 1 := ⟨g - 1, by omega⟩
  rw [zfl, zfl]
  by_cases hi : i < s.size
  ·rw [if_pos hi, if_pos hi]
   by_cases hc : chr s i = 45 /\ chr s (i + 1) = 45
   ·rw [if_pos hc, if_pos hc]
    have h3 := (za3 (P := lnB) (s := s) (i := i) (by decide) (by rw [hc.1]; rfl)).2
    have h4 := za4 lnB s (by decide) (i + 1)
    exact ih g _ (by omega) (by omega)
   ·rw [if_neg hc, if_neg hc]
    by_cases hb : chr s i = 9 ∨ chr s i = 10 ∨ chr s i = 13 ∨ chr s i = 32
    ·rw [if_pos hb, if_pos hb]
     exact ih g _ (by omega) (by omega)
    ·rw [if_neg hb, if_neg hb]
  ·rw [if_neg hi, if_neg hi]
theorem zcd (s : ByteArray) (i : Nat) : zbm s i = if i < s.size then (if chr s i = 45 /\ chr s (i + 1) = 45 then zbm s (spN lnB s i) else if chr s i = 9 ∨ chr s i = 10 ∨ chr s i = 13 ∨ chr s i = 32 then zbm s (i + 1) else i) else i := by
 show zfl s (s.size + 1) i = _
 rw [zfl]
 by_cases hi : i < s.size
 ·rw [if_pos hi, if_pos hi]
  by_cases hc : chr s i = 45 /\ chr s (i + 1) = 45
  ·rw [if_pos hc, if_pos hc]
   have h3 := (za3 (P := lnB) (s := s) (i := i) (by decide) (by rw [hc.1]; rfl)).2
   have h4 := za4 lnB s (by decide) (i + 1)
   exact zgD s _ _ _ (by omega) (by omega)
  ·rw [if_neg hc, if_neg hc]
   by_cases hb : chr s i = 9 ∨ chr s i = 10 ∨ chr s i = 13 ∨ chr s i = 32
   ·rw [if_pos hb, if_pos hb]
    exact zgD s _ _ _ (by omega) (by omega)
   ·rw [if_neg hb, if_neg hb]
 ·rw [if_neg hi, if_neg hi]
theorem blB_iff {c : Int} : blB c = true ↔ (c = 9 ∨ c = 10 ∨ c = 13 ∨ c = 32) := by
 unfold blB
 simp [Bool.or_eq_true, or_assoc]
theorem zdq (s : ByteArray) : ∀ (d i : Nat), s.size - i = d -> zbm s (spN blB s i) = zbm s i := by
 intro d
 induction d with
 | zero =>
  intro i hi
  rw [zbq (by rw [zat (by omega)]; rfl)]
 | succ d ih =>
  intro i hi
  cases h : blB (chr s i) with
  | false => rw [zbq h]
  | true =>
   obtain ⟨h1, h2⟩ := za3 (by decide) h
   have h3 := blB_iff.1 h
   rw [h2, ih (i + 1) (by omega), zcd s i, if_pos h1, if_neg (by omega), if_pos h3]
theorem zmR {s : ByteArray} {i : Nat} (h : spN blB s i = s.size) : zbm s i = s.size := by
 rw [<- zdq s _ i rfl, h, zcd, if_neg (by omega)]
theorem zkS {s : ByteArray} {i : Nat} (h : chr s (spN blB s i) = 45) (h2 : chr s (spN blB s i + 1) = 45) : zbm s i = zbm s (spN lnB s (spN blB s i)) /\ spN blB s i < spN lnB s (spN blB s i) := by
 have h3 := za3 (P := lnB) (s := s) (i := spN blB s i) (by decide) (by rw [h]; rfl)
 have h4 := za4 lnB s (by decide) (spN blB s i + 1)
 refine ⟨?_, by omega⟩
 rw [<- zdq s _ i rfl, zcd, if_pos h3.1, if_pos ⟨h, h2⟩]
theorem zkT {s : ByteArray} {i : Nat} (h : spN blB s i < s.size) (h2 : ¬ (chr s (spN blB s i) = 45 /\ chr s (spN blB s i + 1) = 45)) : zbm s i = spN blB s i := by
 have hb : blB (chr s (spN blB s i)) = false := (zbd blB s (by decide) _ i rfl).2.2.1
 have h3 : ¬ (chr s (spN blB s i) = 9 ∨ chr s (spN blB s i) = 10 ∨ chr s (spN blB s i) = 13 ∨ chr s (spN blB s i) = 32) := fun q => by rw [blB_iff.2 q] at hb; cases hb
 rw [<- zdq s _ i rfl, zcd, if_pos h, if_neg h2, if_neg h3]
end Go.Proofs.YtkihfkcmcdiajaaGreatDoor
namespace Go.Proofs.YtkihfkcmcdiajaaGreatDoor.N
open Go.RowKit
theorem PF_end (E : PE) : ∀ (f m i d a : Nat) (ns : List Nd), PF E f m i d = .inl (a, ns) -> (m = 0 ∨ m = 2 ∨ m = 3 -> bgn E a = false) /\ (m = 1 -> bgn E i = false -> bgn E a = false) := by
 intro f
 induction f with
 | zero => intro m i d a ns h; rw [PF] at h; cases h
 | succ f ih =>
  intro m i d a ns h
  rw [PF] at h
  by_cases m0 : m = 0
  ·rw [if_pos m0] at h
   obtain ⟨a1, n1, r1, h⟩ := zaL h
   obtain ⟨n2, r2, _⟩ := zaY h
   have h1 := (ih _ _ _ _ _ r1).1 (by omega)
   have h2 := (ih _ _ _ _ _ r2).2 rfl h1
   exact ⟨fun _ => h2, fun q => by omega⟩
  rw [if_neg m0] at h
  by_cases m1 : m = 1
  ·rw [if_pos m1] at h
   by_cases k7 : kdA E i = 7
   ·rw [if_pos k7] at h
    obtain ⟨a1, n1, r1, h⟩ := zaL h
    obtain ⟨n2, r2, _⟩ := zaY h
    have h1 := (ih _ _ _ _ _ r1).1 (by omega)
    have h2 := (ih _ _ _ _ _ r2).2 rfl h1
    exact ⟨fun q => by omega, fun _ _ => h2⟩
   ·rw [if_neg k7] at h
    cases h
    exact ⟨fun q => by omega, fun _ q => q⟩
  rw [if_neg m1] at h
  by_cases m2 : m = 2
  ·rw [if_pos m2] at h
   obtain ⟨a1, n1, r1, h⟩ := zaL h
   obtain ⟨n2, r2, _⟩ := zaY h
   have h2 := (ih _ _ _ _ _ r2).1 (by omega)
   exact ⟨fun _ => h2, fun q => by omega⟩
  rw [if_neg m2] at h
  by_cases m3 : m = 3
  ·rw [if_pos m3] at h
   by_cases kb : bgn E i = true
   ·rw [if_pos kb] at h
    obtain ⟨a1, n1, r1, h⟩ := zaL h
    obtain ⟨n2, r2, _⟩ := zaY h
    have h2 := (ih _ _ _ _ _ r2).1 (by omega)
    exact ⟨fun _ => h2, fun q => by omega⟩
   ·rw [if_neg kb] at h
    cases h
    exact ⟨fun _ => Bool.eq_false_iff.2 kb, fun q => by omega⟩
  exact ⟨fun q => by omega, fun q => by omega⟩
theorem ex_end {E : PE} {i a : Nat} {ns : List Nd} (h : exN E i = .inl (a, ns)) : bgn E a = false := (PF_end E _ _ _ _ _ _ h).1 (.inl rfl)
theorem zpl {E : PE} {i a : Nat} {ns : List Nd} (h : exN E i = .inl (a, ns)) (hk : kdA E a = 1) : ruB E a = true := by
 have h1 := ex_end h
 unfold bgn at h1
 unfold ruB
 rw [hk] at h1 ⊢
 simp only [Bool.or_eq_false_iff] at h1
 have h2 := h1.2
 revert h2
 cases (kdA E (a + 1) == 6) <;> simp
def zfb (E : PE) (z : Nat) : Nat -> List Rl -> Option (Int × Int)
 | _, [] => none
 | all, r :: rs => if (T.ck r.2.2).2 ≠ 0 then some (plA E z r.1, (T.ck r.2.2).2) else if 2048 < all + r.2.2.length then some (plA E z r.1, 2) else zfb E z (all + r.2.2.length) rs
def szR (E : PE) (z : Nat) (rs : List Rl) : Option (Int × Int) := match rs[200]? with
 | some r => some (plA E z r.1, 2)
 | none => zfb E z 0 rs
def mkE (l : List Tk) : PE := ⟨l, rnP, T.tmB⟩
def fin (E : PE) (z : Nat) (r : Sum (List Rl) (Nat × Int)) : Sum (List (ByteArray × List Nd)) (Int × Int) := match r with
 | .inr q => .inr (plA E z q.1, q.2)
 | .inl rs => match szR E z rs with
  | some p => .inr p
  | none => .inl (rs.map fun r => r.2)
def psR (s : ByteArray) : Sum (List (ByteArray × List Nd)) (Int × Int) := match zbn (zaE s) s with
 | .inr q => .inr (q.1, q.2)
 | .inl l => fin (mkE l) s.size (rdN (mkE l))
def alN (E : PE) : Sum (List Rl) (Nat × Int) := match exN E 0 with
 | .inr q => .inr q
 | .inl p => if p.1 < E.l.length then .inr (p.1, 60) else .inl [(0, ⟨#[]⟩, p.2)]
def paR (s : ByteArray) : Sum (List (ByteArray × List Nd)) (Int × Int) := match zbn (zaE s) s with
 | .inr q => .inr (q.1, q.2)
 | .inl l => fin (mkE l) s.size (alN (mkE l))
theorem znO {E : PE} (h : ¬ ruB E 0 = true) : rdN E = alN E := by
 unfold rdN alN
 rw [if_neg h]
 cases exN E 0 <;> rfl
end Go.Proofs.YtkihfkcmcdiajaaGreatDoor.N
namespace Go.Proofs.YtkihfkcmcdiajaaGreatDoor
open Go.RowKit
def LxP (w w' : World) (r : Sum (List Tk) (Nat × Int)) (e : Ending) : Prop := match r with
 | .inr q => e = .returned (.tuple #[.slice none 0 0, .agg #[.int .i64 q.1, .int .i64 q.2]])
 | .inl l => ∃ v, e = .returned (.tuple #[v, .agg #[.int .i64 0, .int .i64 0]]) /\ w'.ownsRow w.heap.size 79 9 v l.length (tkc l)
structure AtY (w W : World) (s : ByteArray) (v : Value) (out : List Tk) (i f : Nat) : Prop where
 b : Below w.heap.size w W
 x : FX W w.heap.size 0 0
 g : SG W
 o : W.ownsRow w.heap.size 79 9 v out.length (tkc out)
 hi : i <= s.size
 hf : s.size < f + zbm s i
 he : zbB (zaE s) s f out (zbm s i) = zbn (zaE s) s
 hl : out.length <= i
theorem zpm {W : World} {B n b : Nat} {v : Value} {xs : List Value} {p q : Int} (h : W.ownsRow B 79 9 v n xs) (hx : FX W b p q) (p' q' : Int) : (stF W b p' q').ownsRow B 79 9 v n xs := by
 refine ⟨h.1, ?_⟩
 rcases h.2 with hn | ⟨g, cap, cur, rfl, hB, hgg, rest⟩
 ·exact .inl hn
 ·refine .inr ⟨g, cap, cur, rfl, hB, ?_, rest⟩
  have hne : g ≠ b := by
   rintro rfl
   rw [hx.heap] at hgg
   injection hgg with h1
   injection h1 with h2 h3
   cases h3
  rw [zcQ p' q' hne]
  exact hgg
theorem own_ne {W : World} {B n b : Nat} {v : Value} {xs : List Value} {p q : Int} (h : W.ownsRow B 79 9 v n xs) (hx : FX W b p q) : v.ownBlock ≠ some b := by
 rcases h.2 with ⟨rfl, _⟩ | ⟨g, cap, cur, rfl, hB, hgg, rest⟩
 ·intro q; cases q
 ·intro q
  cases q
  rw [hx.heap] at hgg
  injection hgg with h1
  injection h1 with h2 h3
  cases h3
theorem FX.grown {W W' : World} {b : Nat} {p e : Int} {row : Option Nat} (h : FX W b p e) (hg : W.grownBy W' row) (hne : row ≠ some b) : FX W' b p e := ⟨(hg.block b h.lt (fun e => hne e.symm)).trans h.heap⟩
theorem zcA {B : Nat} {w W : World} {b : Nat} (h : Below B w W) (hb : B <= b) (p q : Int) : Below B w (stF W b p q) := (h.setCell (p := ⟨b, 0, none⟩) hb _).setCell (p := ⟨b, 1, none⟩) hb _
theorem zkU {fn : Func} {R : Ending -> World -> Prop} {a : Act} {W : World} {b : Nat} {p e : Int} {v : Value} (hF : fn.results = #[.tmp 2, .cell 3 27]) (hd : a.defers = []) (h2 : a.tmps.getD 2 undef = v) (h3 : a.tmps.getD 3 undef = .pointer (some ⟨b, 0, none⟩)) (hT : FX W b p e) (hR : R (.returned (.tuple #[v, .agg #[.int .i64 p, .int .i64 e]])) W) : bodyPost Tryz.prog fn R .ret a W := by
 have c0 := hT.c0
 have c1 := hT.c1
 refine bodyPost_ret (v := .tuple #[v, .agg #[.int .i64 p, .int .i64 e]]) ?_ hd hR
 simp only [Array.getD_eq_getD_getElem?] at h2 h3
 simp [results, hF, go_sem, h2, h3, c0, c1]
theorem zpn (s : ByteArray) (hs : s.size <= 65536)
  (H2 : ∀ b t, b < s.size -> zaE s b = .inl t -> ∃ e : Nat, t.en = e /\ b < e /\ e <= s.size) (H3 : ∀ b q, zaE s b = .inr q -> q.2 ≠ 0) (w : World) (hg : SG w) :
  Calls Tryz.prog 44 #[.string s] w fun e w' => LxP w w' (zbn (zaE s) s) e /\ Below w.heap.size w w' := by
 have t1 : ¬ (65536 : Int) < (s.size : Int) := by omega
 obtain ⟨i0, hinf, hz0, hz1, hz2⟩ := info_parts Tryz.info36
 have HB : Hid (∀ k w, k <= s.size -> Calls Tryz.prog 76 #[.string s, .int .i64 ((k : Nat) : Int)] w fun e w' => e = .returned (.int .i64 (spN blB s k)) /\ w' = w) := fun k w hk => zdZ s k (by omega) hk w
 have HLn : Hid (∀ k w, k <= s.size -> Calls Tryz.prog 78 #[.string s, .int .i64 ((k : Nat) : Int)] w fun e w' => e = .returned (.int .i64 (spN lnB s k)) /\ w' = w) := fun k w hk => zg2 s k (by omega) hk w
 have HS : Hid (∀ k w, k <= s.size -> Calls Tryz.prog 77 #[.string s, .int .i64 ((k : Nat) : Int), .string ⟨#[45, 45]⟩] w fun e w' => e = .returned (.bool (pfx s k [45, 45])) /\ w' = w) := fun k w hk => zaz s k ⟨#[45, 45]⟩ hk w
 have HO : Hid (∀ b w, b < s.size -> SG w -> Calls Tryz.prog 79 #[.string s, .int .i64 ((b : Nat) : Int)] w fun e w' => e = .returned (za2 (zaE s b)) /\ Below w.heap.size w w') := fun b w hb g => zf7 s b hs hb w g
 have HE : Hid ((∀ b t, b < s.size -> zaE s b = .inl t -> ∃ e : Nat, t.en = e /\ b < e /\ e <= s.size) /\ ∀ b q, zaE s b = .inr q -> q.2 ≠ 0) := ⟨H2, H3⟩
 have HG0 : Hid (SG w) := hg
 have H0 := (show Hid (AtY w (w.alloc (fxO 0 0)) s (.slice none 0 0) [] 0 (s.size + 1)) from
  ⟨zaa _ _, ⟨heap_alloc_new w _⟩, hg.later (zaa _ _), World.ownsRow_nil _ _ _ _, by omega, by have := (zcf (s := s) (i := 0) (by omega)).1; omega, by unfold zbn; rw [if_neg (by omega)], Nat.le_refl _⟩)
 clear H2 H3 hg
 go_enter Tryz.func44, Tryz.ntmps44
 go_wp2_with fail
 refine ze7 2 0 (fun a' W => ∃ (out : List Tk) (i f : Nat) (v u6 u7 u8 u9 u10 u11 u12 u13 u14 u15 u16 u17 u18 u19 u20 u21 u22 u23 u24 u25 u26 u27 u28 u29 u30 u31 u32 u33 u34 u35 u36 u37 u38 u39 u40 u41 u42 u43 u44 : Value), a' = { tmps := #[.string s, undef, .slice none 0 0, .pointer (some ⟨w.heap.size, 0, none⟩), v, .int .i64 i, u6, u7, u8, u9, u10, u11, u12, u13, u14, u15, u16, u17, u18, u19, u20, u21, u22, u23, u24, u25, u26, u27, u28, u29, u30, u31, u32, u33, u34, u35, u36, u37, u38, u39, u40, u41, u42, u43, u44], defers := [] } /\ Hid (AtY w W s v out i f)) (fun a' _ => s.size - (intOf (a'.tmps.getD 5 undef)).toNat) rfl ?_ ?_
 case refine_2 =>
  rintro a' W ⟨out, i, f, v, u6, u7, u8, u9, u10, u11, u12, u13, u14, u15, u16, u17, u18, u19, u20, u21, u22, u23, u24, u25, u26, u27, u28, u29, u30, u31, u32, u33, u34, u35, u36, u37, u38, u39, u40, u41, u42, u43, u44, rfl, HW⟩
  clear H0
  have hi := HW.out.hi
  have hf := HW.out.hf
  have hol := HW.out.hl
  have hge := za4 blB s (by decide) i
  have hle := zbC blB s (by decide) i hi
  have HBi := (show Hid _ from fun w => HB.out i w hi)
  have HSi := (show Hid _ from fun w => HS.out (spN blB s i) w hle)
  have HLi := (show Hid _ from fun w => HLn.out (spN blB s i) w hle)
  have HGe : Hid (spN blB s i = s.size -> zbm s i = s.size) := fun h => zmR h
  have HGn : Hid (chr s (spN blB s i) = 45 -> chr s (spN blB s i + 1) = 45 -> zbm s i = zbm s (spN lnB s (spN blB s i)) /\ spN blB s i < spN lnB s (spN blB s i)) := fun a b => zkS a b
  have HGh : Hid (spN blB s i < s.size -> ¬ (chr s (spN blB s i) = 45 /\ chr s (spN blB s i + 1) = 45) -> zbm s i = spN blB s i) := fun a b => zkT a b
  have hle2 := zbC lnB s (by decide) (spN blB s i) hle
  generalize hp : spN blB s i = p at *
  clear HB HS HLn hp
  by_cases hend : p = s.size
  ·have HV : Hid (zbn (zaE s) s = .inl out) := by
    show zbn (zaE s) s = _
    rw [<- HW.out.he, HGe.out hend]
    obtain ⟨f, rfl⟩ : ∃ g, f = g + 1 := ⟨f - 1, by have := HGe.out hend; omega⟩
    rw [zbB, if_neg (by omega)]
   have v1 : ((p : Int) == (s.size : Int)) = true := by rw [hend]; exact beq_self_eq_true _
   have f0 := HW.out.x.f0
   have f1' := HW.out.x.f1
   have c0 := HW.out.x.c0
   have c1 := HW.out.x.c1
   clear HSi HLi HGe HGn HGh HO HE hend
   go_wp2_with fail
   refine (HBi.out _).mono ?_
   rintro e W ⟨rfl, rfl⟩
   clear HBi
   go_wp2_with fail
   refine zkU rfl rfl rfl rfl (zeC HW.out.x 0 0) ⟨?_, zcA HW.out.b (Nat.le_refl _) 0 0⟩
   rw [HV.out]
   exact ⟨v, rfl, zpm HW.out.o HW.out.x 0 0⟩
  have v1 : ((p : Int) == (s.size : Int)) = false := by rw [beq_eq_false_iff_ne]; omega
  have hplt : p < s.size := by omega
  by_cases hn : chr s p = 45 /\ chr s (p + 1) = 45
  ·obtain ⟨hg1, hg2⟩ := HGn.out hn.1 hn.2
   have hpf : pfx s p [45, 45] = true := by
    show (chr s p == 45 && (chr s (p + 1) == 45 && true)) = true
    rw [hn.1, hn.2]; rfl
   rw [hpf] at HSi
   generalize spN lnB s p = q at *
   have HW2 : Hid (AtY w W s v out q f) := ⟨HW.out.b, HW.out.x, HW.out.g, HW.out.o, hle2, by have := HW.out.hf; rw [hg1] at this; exact this, by rw [<- hg1]; exact HW.out.he, by have := HW.out.hl; omega⟩
   clear HGe HGn HGh HO HE hend hn hg1 hpf HW
   go_wp2_with fail
   refine (HBi.out _).mono ?_
   rintro e W ⟨rfl, rfl⟩
   clear HBi
   go_wp2_with fail
   refine (HSi.out _).mono ?_
   rintro e W ⟨rfl, rfl⟩
   clear HSi
   go_wp2_with fail
   go_step3
   simp (config := { zetaDelta := true }) only [zbz, zcW]
   refine zgw rfl ?_
   go_wp2_with fail
   refine (HLi.out _).mono ?_
   rintro e W ⟨rfl, rfl⟩
   clear HLi
   go_wp2_with fail
   go_step3
   simp (config := { zetaDelta := true }) only [zbz]
   refine zko ⟨⟨out, q, f, v, _, _, _, _, _, _, _, _, _, _, _, _, _, _, _, _, _, _, _, _, _, _, _, _, _, _, _, _, _, _, _, _, _, _, _, _, _, _, _, rfl, HW2⟩, ?_⟩
   simp [intOf]
   omega
  ·have hg1 := HGh.out hplt hn
   have hpf : pfx s p [45, 45] = false := by
    show (chr s p == 45 && (chr s (p + 1) == 45 && true)) = false
    by_cases h1 : chr s p = 45
    ·have h2 : ¬ chr s (p + 1) = 45 := fun q => hn ⟨h1, q⟩
     rw [bF h2]; simp
    ·rw [bF h1]; rfl
   rw [hpf] at HSi
   have HOp : Hid (∀ w, SG w -> Calls Tryz.prog 79 #[.string s, .int .i64 ((p : Nat) : Int)] w fun e w' => e = .returned (za2 (zaE s p)) /\ Below w.heap.size w w') := fun w g => HO.out p w hplt g
   obtain ⟨f, rfl⟩ : ∃ g, f = g + 1 := ⟨f - 1, by omega⟩
   have HU : Hid (zbn (zaE s) s = match zaE s p with
    | .inr q => .inr q
    | .inl t => zbB (zaE s) s f (out ++ [t]) (zbm s t.en.toNat)) := by show zbn (zaE s) s = _; rw [<- HW.out.he, zbB, hg1, if_pos hplt]; cases zaE s p <;> rfl
   cases ho : zaE s p with
   | inr q =>
    have hne := HE.out.2 p q ho
    have HV : Hid (zbn (zaE s) s = .inr q) := by show zbn (zaE s) s = _; rw [HU.out, ho]
    rw [ho] at HOp
    have t3 : (q.2 != 0) = true := by rw [bne, bF hne]; rfl
    clear HGe HGn HGh HO HE hend hn hg1 hpf HLi HU ho hne
    go_wp2_with fail
    refine (HBi.out _).mono ?_
    rintro e W ⟨rfl, rfl⟩
    clear HBi
    go_wp2_with fail
    refine (HSi.out _).mono ?_
    rintro e W ⟨rfl, rfl⟩
    clear HSi
    go_wp2_with fail
    go_step3
    simp (config := { zetaDelta := true }) only [zbz, zcW]
    refine zgw rfl ?_
    go_wp2_with fail
    refine (HOp.out _ HW.out.g).mono ?_
    rintro e w3 ⟨rfl, b3⟩
    have HB5 := (show Hid (Below w.heap.size w ((w3.alloc (tkO tk0)).alloc (fxO q.1 q.2)) /\ FX ((w3.alloc (tkO tk0)).alloc (fxO q.1 q.2)) w.heap.size 0 0 /\ FX ((w3.alloc (tkO tk0)).alloc (fxO q.1 q.2)) (w3.heap.size + 1) q.1 q.2) from
     ⟨(((HW.out.b.trans (b3.mono HW.out.b.size)).alloc (Nat.le_trans HW.out.b.size b3.size) _).alloc (by rw [World.size_alloc]; have := HW.out.b.size; have := b3.size; omega) _), ((HW.out.x.below b3).below (zaa _ _)).below (zaa _ _), ⟨by
      have h := heap_alloc_new (w3.alloc (tkO tk0)) (fxO q.1 q.2)
      rw [World.size_alloc] at h
      exact h⟩⟩)
    have hlt3 := (HW.out.x.below b3).lt
    have ne1 : ¬ w3.heap.size + 1 = w.heap.size := by omega
    have ne2 : ¬ w.heap.size = w3.heap.size + 1 := by omega
    clear b3 HW HOp
    unfold za2 zaN
    go_wp2_with fail
    generalize (w3.alloc (tkO tk0)).alloc (fxO q.1 q.2) = w5 at *
    have f0 := HB5.out.2.1.f0
    have f1' := HB5.out.2.1.f1
    have c0 := HB5.out.2.1.c0
    have c1 := HB5.out.2.1.c1
    have k0 := HB5.out.2.2.c0
    have k1 := HB5.out.2.2.c1
    go_region
    all_goals
     go_wp2_with fail
     simp only [zdD]
     refine zkU rfl rfl rfl rfl ((zeC HB5.out.2.1 q.1 q.2).below (Below.refl _ _).drew) ⟨?_, (zcA HB5.out.1 (Nat.le_refl _) q.1 q.2).drew⟩
     rw [HV.out]
     exact rfl
   | inl t =>
    obtain ⟨en, he1, he2, he3⟩ := HE.out.1 p t hplt ho
    have HV : Hid (zbB (zaE s) s f (out ++ [t]) (zbm s en) = zbn (zaE s) s) := by show _ = zbn (zaE s) s; rw [HU.out, ho]; show _ = zbB (zaE s) s f (out ++ [t]) (zbm s t.en.toNat); rw [he1]; rfl
    have hgb := zcf he3
    have HEn : Hid (t.en = (en : Int)) := he1
    clear he1
    rw [ho] at HOp
    clear HGe HGn HGh HO HE hend hn hpf HLi HU ho
    go_wp2_with fail
    refine (HBi.out _).mono ?_
    rintro e W ⟨rfl, rfl⟩
    clear HBi
    go_wp2_with fail
    refine (HSi.out _).mono ?_
    rintro e W ⟨rfl, rfl⟩
    clear HSi
    go_wp2_with fail
    go_step3
    simp (config := { zetaDelta := true }) only [zbz, zcW]
    refine zgw rfl ?_
    go_wp2_with fail
    refine (HOp.out _ HW.out.g).mono ?_
    rintro e w3 ⟨rfl, b3⟩
    have hO : w3.ownsRow w.heap.size 79 9 v out.length (tkc out) := znD HW.out.o b3
    have HB3 : Hid (Below w.heap.size w w3 /\ FX w3 w.heap.size 0 0 /\ SG w3) := ⟨HW.out.b.trans (b3.mono HW.out.b.size), HW.out.x.below b3, HW.out.g.later b3⟩
    have hs3 := HB3.out.1.size
    have HX : Hid (TX ((w3.alloc (tkO t)).alloc (fxO 0 0)) w3.heap.size t) := (TX.new w3 t).below (zaa _ _)
    clear b3 HOp HW
    unfold za2 zaN
    obtain ⟨c0, c1, c2, c3, c4, c5, c6, c7, c8⟩ := HX.out.cells
    go_wp2_with (at_builtin; refine wpList_append_lies _ rfl _ _ 42 rfl w.heap.size 79 i0 (tkG tk0) 9 80 Tryz.underlying42 hinf hz0 hz1 hz2 rfl (by decide) _ _ _ rfl (((hO.alloc _).alloc _).alloc _) ⟨w3.heap.size + 1 + 1, 0, none⟩ 1 1 (tkV t) rfl rfl ?c1 (zjN _) (by decide) ?c3 ?c4 ?c5 (w3.heap.size + 1 + 1 + 1) (by simp) ?_)
    case c1 =>
     have hh := heap_alloc_new ((w3.alloc (tkO t)).alloc (fxO 0 0)) (.cells (tkC t) 79)
     rw [World.size_alloc, World.size_alloc] at hh
     exact World.news_of_block (cs := tkC t) (t := 79) (fr := (0, 0)) hh
    case c3 => unfold maxLen; omega
    case c4 => omega
    case c5 => first | omega | (simp; omega)
    intro g3 cap w4 hown hgrow hat _
    have hgo : ∀ k, v.ownBlock = some k -> w.heap.size <= k /\ k < w3.heap.size := fun k e => hO.lt k e
    have hne4 := own_ne hO HB3.out.2.1
    have HX4 : Hid (TX w4 w3.heap.size t) := (HX.out.below (zaa _ _)).grown hgrow (fun e => by have := (hgo _ e).2; omega)
    have hb4 : Below w.heap.size w w4 := (((HB3.out.1.alloc hs3 _).alloc (by rw [World.size_alloc]; omega) _).alloc (by rw [World.size_alloc, World.size_alloc]; omega) _).grown hgrow (by rw [World.size_alloc, World.size_alloc, World.size_alloc]; omega) (fun k e => (hgo k e).1)
    have HW4 := (show Hid (AtY w w4 s (.slice (some ⟨g3, 0, none⟩) (out.length + 1) cap) (out ++ [t]) en f) from by
     refine ⟨hb4, (((HB3.out.2.1.below (zaa _ _)).below (zaa _ _)).below (zaa _ _)).grown hgrow hne4, HG0.out.below hb4 HG0.out.lt, ?_, he3, by rw [hg1] at hf; omega, HV.out, by rw [List.length_append, List.length_singleton]; omega⟩
     rw [List.length_append, List.length_singleton, zdY, zgZ]
     exact hown)
    have e3 := HX4.out.cells.c3
    rw [HEn.out] at e3
    clear hown hgrow hat hgo hO HB3 HX HV c0 c1 c2 c3 c4 c5 c6 c7 c8 hne4 hb4 HX4
    go_wp2_with fail
    go_step3
    simp (config := { zetaDelta := true }) only []
    refine zko ⟨⟨out ++ [t], en, f, _, _, _, _, _, _, _, _, _, _, _, _, _, _, _, _, _, _, _, _, _, _, _, _, _, _, _, _, _, _, _, _, _, _, _, _, _, _, _, _, rfl, HW4⟩, ?_⟩
    simp [intOf]
    omega
 case refine_1 =>
  intro hpass
  have HPs := hO hpass
  clear hpass
  go_wp2_with fail
  go_step3
  rename_i hK
  refine hK _ _ ?_
  refine HPs.out _ _ ?_
  exact ⟨[], 0, s.size + 1, .slice none 0 0, _, _, _, _, _, _, _, _, _, _, _, _, _, _, _, _, _, _, _, _, _, _, _, _, _, _, _, _, _, _, _, _, _, _, _, _, _, _, _, rfl, H0⟩
theorem zkV (s : ByteArray) (hs : 65536 < s.size) (w : World) : Calls Tryz.prog 44 #[.string s] w fun e w' => LxP w w' (zbn (zaE s) s) e /\ Below w.heap.size w w' := by
 have t1 : (65536 : Int) < (s.size : Int) := by omega
 have HE : Hid (zbn (zaE s) s = .inr (0, 2)) := by show zbn (zaE s) s = _; unfold zbn; rw [if_pos hs]
 go_enter Tryz.func44, Tryz.ntmps44
 go_wp2_with fail
 refine zaT 1 0 rfl ?_
 go_wp2_with fail
 simp only [zdD]
 refine zkU (b := w.heap.size) (p := 0) (e := 2) rfl rfl rfl rfl ⟨heap_alloc_new w _⟩ ⟨?_, zaa _ _⟩
 rw [HE.out]
 exact rfl
theorem zdF (s : ByteArray) (q : Int) (b : Nat) (hq : 0 <= q) : ∀ (f : Nat) (out : List Int) (i : Nat) (t : Tk), zbs s q b f out i = .inl t -> ∃ e : Nat, t.en = e /\ i < e /\ e <= s.size := by
 intro f
 induction f with
 | zero => intro out i t h; rw [zbs] at h; cases h
 | succ f ih =>
  intro out i t h
  rw [zbs] at h
  split at h
  ·cases h
  next h0 =>
  split at h
  next h1 =>
   split at h
   ·cases h
   ·cases h
    have := zau (s := s) (i := i) (by omega)
    exact ⟨i + 1, rfl, by omega, by omega⟩
  split at h
  ·cases h
  split at h
  ·obtain ⟨e, h1, h2, h3⟩ := ih _ _ _ h
   exact ⟨e, h1, by omega, h3⟩
  ·split at h
   ·cases h
   ·next c n he =>
    have h4 := zf6 he
    obtain ⟨e, h1, h2, h3⟩ := ih _ _ _ h
    exact ⟨e, h1, by omega, h3⟩
theorem zmS (s : ByteArray) (q : Int) (b : Nat) : ∀ (f : Nat) (out : List Int) (i : Nat) (p : Nat × Int), zbs s q b f out i = .inr p -> p.2 ≠ 0 := by
 intro f
 induction f with
 | zero => intro out i p h; rw [zbs] at h; cases h; simp
 | succ f ih =>
  intro out i p h
  rw [zbs] at h
  split at h
  ·cases h; simp
  split at h
  ·split at h
   ·cases h; simp
   ·cases h
  split at h
  ·cases h; simp
  split at h
  ·exact ih _ _ _ h
  ·split at h
   ·cases h; simp
   ·exact ih _ _ _ h
theorem zkW {s : ByteArray} {d : Nat} {m n : Int} (h : zbx s d m = .inl n) : d < spN dgB s d := by
 unfold zbx at h
 split at h
 ·cases h
 ·omega
theorem zh3 {s : ByteArray} {b d : Nat} {k : Int} {t : Tk} (hd : d <= s.size) (h : nmR s b d k = .inl t) : ∃ e : Nat, t.en = e /\ d < e /\ e <= s.size := by
 unfold nmR at h
 cases hn : zbx s d (gtK k) with
 | inr e => rw [hn] at h; cases h
 | inl n =>
  rw [hn] at h
  cases h
  exact ⟨_, rfl, zkW hn, zbC dgB s (by decide) d hd⟩
theorem zpo {s : ByteArray} {d : Nat} {m e : Int} (h : zbx s d m = .inr e) : e ≠ 0 := by
 unfold zbx at h
 split at h
 ·cases h; simp
 ·split at h
  ·cases h; simp
  ·cases h
theorem znP {s : ByteArray} {b d : Nat} {k : Int} {q : Nat × Int} (h : nmR s b d k = .inr q) : q.2 ≠ 0 := by
 unfold nmR at h
 cases hn : zbx s d (gtK k) with
 | inr e => rw [hn] at h; cases h; exact zpo hn
 | inl n => rw [hn] at h; cases h
theorem zmT {s : ByteArray} {b : Nat} {q : Nat × Int} (h : zca s b = .inr q) : q.2 ≠ 0 := by
 unfold zca at h
 split at h
 ·cases h; simp
 ·cases h
theorem zpp {s : ByteArray} {b d : Nat} {q : Nat × Int} (h : zcv s b d = .inr q) : q.2 ≠ 0 := by
 unfold zcv at h
 split at h
 ·split at h
  ·cases h; simp
  ·split at h <;> cases h
 ·cases h
theorem zhn {s : ByteArray} {b d : Nat} {t : Tk} (hd : d <= s.size) (h : zcv s b d = .inl t) : ∃ e : Nat, t.en = e /\ d <= e /\ e <= s.size := by
 unfold zcv at h
 split at h
 ·split at h
  ·cases h
  ·split at h
   ·next hc =>
    cases h
    have h1 := za4 nmB s (by decide) d
    have h2 := zau (s := s) (i := spN nmB s d) (by omega)
    exact ⟨_, rfl, by omega, by omega⟩
   ·cases h; exact ⟨d, rfl, Nat.le_refl _, hd⟩
 ·cases h; exact ⟨d, rfl, Nat.le_refl _, hd⟩
theorem zmU (s : ByteArray) (i : Nat) : ∀ l : List (Int × List UInt8), (∀ p ∈ l, p.1 ≠ 0 /\ 1 <= p.2.length) -> (zhZ s i l).1 = 0 ∨ 1 <= (zhZ s i l).2.length := by
 intro l
 induction l with
 | nil => intro _; exact .inl rfl
 | cons p l ih =>
  intro h
  rw [zhZ]
  split
  ·exact .inr (h p (List.mem_cons_self ..)).2
  ·exact ih (fun q hq => h q (List.mem_cons_of_mem _ hq))
theorem zh4 (s : ByteArray) (i : Nat) : (zap s i).1 = 0 ∨ 1 <= (zap s i).2.length := zmU s i sgTab (by decide)
theorem zho {s : ByteArray} {b : Nat} {t : Tk} (hb : b <= s.size) (h : zbr s b = .inl t) : ∃ e : Nat, t.en = e /\ b < e /\ e <= s.size := by
 have h1 := zbL s b hb
 have h2 := zh4 s b
 unfold zbr at h
 split at h
 ·cases h
 next h0 =>
 have h3 : 1 <= (zap s b).2.length := by rcases h2 with q | q; exact absurd q h0; exact q
 split at h
 ·obtain ⟨e, a1, a2, a3⟩ := zh3 h1 h
  exact ⟨e, a1, by omega, a3⟩
 split at h
 ·obtain ⟨e, a1, a2, a3⟩ := zhn h1 h
  exact ⟨e, a1, by omega, a3⟩
 ·cases h
  exact ⟨_, rfl, by omega, h1⟩
theorem zkX {s : ByteArray} {b : Nat} {q : Nat × Int} (h : zbr s b = .inr q) : q.2 ≠ 0 := by
 unfold zbr at h
 split at h
 ·cases h; simp
 split at h
 ·exact znP h
 split at h
 ·exact zpp h
 ·cases h
theorem zkY {s : ByteArray} {b : Nat} {t : Tk} (hb : b + 3 <= s.size) (h : zb2 s b = .inl t) : ∃ e : Nat, t.en = e /\ b < e /\ e <= s.size := by
 have h1 := zbQ hb
 unfold zb2 at h
 split at h
 ·cases h
 split at h
 ·next h45 =>
  have h2 := zau (s := s) (i := (ptP s (b + 3)).2.1) (by omega)
  have h3 := zbQ (s := s) (a := (ptP s (b + 3)).2.1 + 1) (by omega)
  split at h
  ·cases h
  split at h
  ·next hc =>
   cases h
   have h4 := zau (s := s) (i := (ptP s ((ptP s (b + 3)).2.1 + 1)).2.1) (by omega)
   exact ⟨_, rfl, by omega, by omega⟩
  ·cases h
 ·split at h
  ·next hc =>
   cases h
   have h4 := zau (s := s) (i := (ptP s (b + 3)).2.1) (by omega)
   exact ⟨_, rfl, by omega, by omega⟩
  ·cases h
theorem zpq {s : ByteArray} {b : Nat} {q : Nat × Int} (h : zb2 s b = .inr q) : q.2 ≠ 0 := by
 unfold zb2 at h
 split at h
 ·cases h; simp
 split at h
 ·split at h
  ·cases h; simp
  split at h
  ·cases h
  ·cases h; simp
 ·split at h
  ·cases h
  ·cases h; simp
theorem zkZ {s : ByteArray} {b : Nat} {t : Tk} (hb : b <= s.size) (h : zcy s b = .inl t) : ∃ e : Nat, t.en = e /\ b < e /\ e <= s.size := by
 unfold zcy at h
 split at h
 ·next hp => exact zkY (zf1 hb hp) h
 split at h
 ·exact zho hb h
 split at h
 ·next hc => cases h; exact ⟨_, rfl, by omega, by omega⟩
 ·cases h
theorem zpr {s : ByteArray} {b : Nat} {q : Nat × Int} (h : zcy s b = .inr q) : q.2 ≠ 0 := by
 unfold zcy at h
 split at h
 ·exact zpq h
 split at h
 ·exact zkX h
 split at h
 ·cases h
 ·cases h; simp
theorem zhp (s : ByteArray) (b : Nat) (q : Nat × Int) (h : zaE s b = .inr q) : q.2 ≠ 0 := by
 unfold zaE at h
 split at h
 ·exact zmT h
 split at h
 ·exact znP h
 split at h
 ·exact zmS _ _ _ _ _ _ _ h
 split at h
 ·unfold clT at h
  cases hr : zam s b with
  | inl p => rw [hr] at h; cases h
  | inr p =>
   obtain ⟨a, c⟩ := p
   rw [hr] at h
   have hne := zeO hr
   dsimp only at h
   split at h
   ·cases h; simp
   ·cases h; exact hne
 split at h
 ·exact zpr h
 ·exact zkX h
theorem zgE {s : ByteArray} {i : Nat} {x : BitVec 256} {n : Nat} (h : zam s i = .inl (x, n)) : i < n := by
 unfold zam at h
 split at h
 ·simp at h
 ·split at h
  ·split at h
   ·cases hm : zac s (s.size + 1) 0#256 ((i : Int).toNat + 2) with
    | inr pq =>
     obtain ⟨a', c'⟩ := pq
     rw [hm] at h; simp [zcN] at h
    | inl p => obtain ⟨y, m⟩ := p; have b := zaU hm; rw [hm] at h; simp only [zcN, Sum.inl.injEq, Prod.mk.injEq] at h; omega
   ·cases hm : zac s (s.size + 1) 0#256 ((i : Int).toNat + 1) with
    | inr pq =>
     obtain ⟨a', c'⟩ := pq
     rw [hm] at h; simp [zeN] at h
    | inl p => obtain ⟨y, m⟩ := p; have b := zaU hm; rw [hm] at h; simp only [zeN, Sum.inl.injEq, Prod.mk.injEq] at h; omega
  ·simp at h
theorem zeR (s : ByteArray) (b : Nat) (t : Tk) (hb : b < s.size) (h : zaE s b = .inl t) : ∃ e : Nat, t.en = e /\ b < e /\ e <= s.size := by
 unfold zaE at h
 split at h
 ·next hh =>
  unfold zca at h
  split at h
  ·cases h
  ·cases h
   have h1 := (za3 (P := nmB) (s := s) (i := b) (by decide) (by unfold nmB; rw [hh]; rfl)).2
   have h2 := za4 nmB s (by decide) (b + 1)
   exact ⟨_, rfl, by omega, zbC nmB s (by decide) b (by omega)⟩
 split at h
 ·exact zh3 (by omega) h
 split at h
 ·next hq =>
  obtain ⟨e, a1, a2, a3⟩ := zdF s _ b (by omega) _ _ _ _ h
  exact ⟨e, a1, by omega, a3⟩
 split at h
 ·cases hr : zam s b with
  | inr p =>
   rw [hr, clT] at h
   split at h <;> cases h
  | inl p =>
   obtain ⟨x, n⟩ := p
   rw [hr] at h
   cases h
   exact ⟨n, rfl, zgE hr, zgB hr⟩
 split at h
 ·exact zkZ (by omega) h
 ·exact zho (by omega) h
theorem zh5 (s : ByteArray) (w : World) (hg : SG w) : Calls Tryz.prog 44 #[.string s] w fun e w' => LxP w w' (zbn (zaE s) s) e /\ Below w.heap.size w w' := by
 by_cases hs : s.size <= 65536
 ·exact zpn s hs (fun b t hb h => zeR s b t hb h) (fun b q h => zhp s b q h) w hg
 ·exact zkV s (by omega) w
def spT (lo hi : Nat) : List UInt8 := if hi - lo = 0 then itm lo else if hi - lo = 1 then itm lo ++ itm hi else itm lo ++ [45] ++ itm hi
theorem znQ (a b : List UInt8) : (⟨a.toArray⟩ : ByteArray) ++ ⟨b.toArray⟩ = ⟨(a ++ b).toArray⟩ := by apply ByteArray.ext; simp
def itB (b : Nat) : ByteArray := ⟨(itm b).toArray⟩
theorem zh6 (b : Nat) : (itB b).size <= 4 := by
 show (itm b).toArray.size <= 4
 unfold itm
 repeat' split
 all_goals simp
theorem zi0 (x : BitVec 256) (w : World) :
  Calls Tryz.prog 95 #[sv x] w fun e w' => e = .returned (.int .i64 (cnt x)) /\ Below w.heap.size w w' := by
 have HR := hO (zaD w (c4 x))
 have HL : Hid ((zaj (bys x)).size = cnt x) := (by show (zaj (bys x)).size = cnt x; rw [zaw, zjr])
 go_enter Tryz.func95, Tryz.ntmps95
 go_wp2_with fail
 refine (ziA x _).mono ?_
 rintro e w1 ⟨rfl, hb⟩
 have HR1 := hO (HR.out.trans (hb.mono (by simp)))
 clear hb
 go_wp2
 go_ret
 exact ⟨zgS (by rw [HL.out]), HR1.out⟩
theorem znR (bs : List Int) (p : Int × Int) (h : p ∈ spL bs) : p.1 <= p.2 := by
 have key : ∀ n (bs : List Int), bs.length = n -> ∀ p ∈ spL bs, p.1 <= p.2 := fun n => by
  induction n with
  | zero => intro bs h p hp; rw [List.eq_nil_of_length_eq_zero h] at hp; simp [spL] at hp
  | succ n ih =>
   intro bs h p hp
   rcases zbb bs with rfl | ⟨m, b, rfl⟩
   ·simp at h
   ·have ihm := ih m (by simp at h; exact h)
    rw [zc5] at hp
    rcases zbb (spL m) with hs | ⟨l, ⟨lo, hi⟩, hs⟩
    ·rw [hs] at hp; simp [zcn] at hp; subst hp; exact Int.le_refl _
    ·rw [hs] at hp ihm
     by_cases e : hi + 1 = b
     ·rw [zbX _ _ _ _ e] at hp
      rcases List.mem_append.1 hp with h1 | h1
      ·exact ihm p (List.mem_append_left _ h1)
      ·simp at h1; subst h1
       have := ihm (lo, hi) (by simp)
       simp at this ⊢; omega
     ·rw [zbF _ _ _ _ e] at hp
      rcases List.mem_append.1 hp with h1 | h1
      ·exact ihm p h1
      ·simp at h1; subst h1; exact Int.le_refl _
 exact key _ bs rfl p h
theorem zh7 (x : BitVec 256) (b : Int) (h : b ∈ bys x) : 0 <= b /\ b < 256 := zlW x 256 b h
theorem zh8 (bs : List Int) (p : Int × Int) (h : p ∈ spL bs) : p.1 ∈ bs /\ p.2 ∈ bs := by
 have key : ∀ n (bs : List Int), bs.length = n -> ∀ p ∈ spL bs, p.1 ∈ bs /\ p.2 ∈ bs := fun n => by
  induction n with
  | zero => intro bs h p hp; rw [List.eq_nil_of_length_eq_zero h] at hp; simp [spL] at hp
  | succ n ih =>
   intro bs h p hp
   rcases zbb bs with rfl | ⟨m, b, rfl⟩
   ·simp at h
   ·have ihm := ih m (by simp at h; exact h)
    rw [zc5] at hp
    rcases zbb (spL m) with hs | ⟨l, ⟨lo, hi⟩, hs⟩
    ·rw [hs] at hp; simp [zcn] at hp; subst hp; simp
    ·rw [hs] at hp ihm
     have inl : ∀ q ∈ l ++ [(lo, hi)], q.1 ∈ m ++ [b] /\ q.2 ∈ m ++ [b] := fun q hq => ⟨List.mem_append_left _ (ihm q hq).1, List.mem_append_left _ (ihm q hq).2⟩
     by_cases e : hi + 1 = b
     ·rw [zbX _ _ _ _ e] at hp
      rcases List.mem_append.1 hp with h1 | h1
      ·exact inl p (List.mem_append_left _ h1)
      ·simp at h1; subst h1
       exact ⟨(inl (lo, hi) (by simp)).1, by simp⟩
     ·rw [zbF _ _ _ _ e] at hp
      rcases List.mem_append.1 hp with h1 | h1
      ·exact inl p h1
      ·simp at h1; subst h1; simp
 exact key _ bs rfl p h
theorem zd1 (x : BitVec 256) : (spL (bys x)).length <= 256 := Nat.le_trans (zjx _) (by rw [zjr]; exact cnt_le x)
theorem zf8 (x : BitVec 256) (p : Int × Int) (h : p ∈ spL (bys x)) : 0 <= p.1 /\ p.1 <= p.2 /\ p.2 < 256 :=
 ⟨(zh7 x _ (zh8 _ p h).1).1, znR _ p h, (zh7 x _ (zh8 _ p h).2).2⟩
def zdg (l : List (Int × Int)) : List UInt8 := l.flatMap fun p => spT p.1.toNat p.2.toNat
theorem zk0 (l : List (Int × Int)) (p : Int × Int) : zdg (l ++ [p]) = zdg l ++ spT p.1.toNat p.2.toNat := by unfold zdg; rw [List.flatMap_append]; simp
def fulB (x : BitVec 256) : Bool := x == ~~~ 0#256
def shT (x : BitVec 256) : List UInt8 := if fulB x then [91, 94, 93] else 91 :: zdg (spL (bys x)) ++ [93]
theorem zk1 (b : Nat) : (itm b).length <= 4 := by
 unfold itm
 repeat' split
 all_goals simp
theorem zps (lo hi : Nat) : (spT lo hi).length <= 9 := by
 have h1 := zk1 lo
 have h2 := zk1 hi
 unfold spT
 repeat' split
 ·omega
 ·rw [List.length_append]; omega
 ·rw [List.length_append, List.length_append]; simp only [List.length_singleton]; omega
theorem zk2 (p : Int × Int) (l : List (Int × Int)) : zdg (p :: l) = spT p.1.toNat p.2.toNat ++ zdg l := by unfold zdg; rw [List.flatMap_cons]
theorem zh9 (l : List (Int × Int)) : (zdg l).length <= 9 * l.length := by
 induction l with
 | nil => simp [zdg]
 | cons p l ih => have := zps p.1.toNat p.2.toNat; rw [zk2, List.length_append, List.length_cons]; omega
theorem zbH {w w' : World} {base e size : Nat} {v : Value} {n : Nat} {xs : List Value} (h : w.ownsRow base e size v n xs) (hb : Below w.heap.size w w') : w'.ownsRow base e size v n xs := by
 refine h.kept (row := none) ⟨hb.os, hb.tape, hb.output, hb.size, fun k hk _ => hb.block k hk⟩ ?_
 cases h2 : v.ownBlock
 ·exact .inl rfl
 ·exact .inr (by simp)
theorem zpt (SL : List (Int × Int)) (k : Nat) (h : k < SL.length) (hok : ∀ p ∈ SL, 0 <= p.1 /\ p.1 <= p.2 /\ p.2 < 256) :
  ∃ lo hi : Nat, lo <= hi /\ hi < 256 /\ (SL[k]).1 = (lo : Int) /\ (SL[k]).2 = (hi : Int) /\ zdg (SL.take (k + 1)) = zdg (SL.take k) ++ spT lo hi := by
 obtain ⟨h1, h2, h3⟩ := hok _ (List.getElem_mem h)
 refine ⟨(SL[k]).1.toNat, (SL[k]).2.toNat, by omega, by omega, by omega, by omega, ?_⟩
 rw [<- zk0, List.take_append_getElem h]
theorem zf9 {w : World} {base : Nat} {g : Option Addr} {cap k : Nat} {SL : List (Int × Int)} (h : w.ownsRow base 133 2 (.slice g SL.length cap) SL.length (spc SL)) (hk : k < SL.length) :
  ∃ g', g = some ⟨g', 0, none⟩ /\ w.cell? ⟨g', k * 2, none⟩ = some (.int .i64 (SL[k]).1) /\ w.cell? ⟨g', k * 2 + 1, none⟩ = some (.int .i64 (SL[k]).2) := by
 rcases h.2 with ⟨hv, h0⟩ | ⟨g', cap', cur, hv, hr⟩
 ·omega
 ·cases hv
  exact ⟨g', rfl, (h.cellAt (k * 2) (by omega)).trans (spc_lo SL k hk), (h.cellAt (k * 2 + 1) (by omega)).trans (spc_hi SL k hk)⟩
abbrev tx8 (l : List UInt8) : ByteArray := ⟨l.toArray⟩
def chL (l : List UInt8) (i : Nat) : Int := match l[i]? with
 | some c => (c.toNat : Int)
 | none => -1
theorem zeS (l : List UInt8) : (tx8 l).size = l.length := rfl
theorem zaP (l : List UInt8) (i : Nat) : chr (tx8 l) i = chL l i := by
 unfold chr chL
 by_cases h : i < l.length
 ·rw [dif_pos (show i < (tx8 l).size from h), List.getElem?_eq_getElem h]
  rfl
 ·rw [dif_neg (show ¬ i < (tx8 l).size from h), List.getElem?_eq_none (by omega)]
theorem zhq (p r : List UInt8) (j : Nat) : chL (p ++ r) (p.length + j) = chL r j := by
 unfold chL
 rw [List.getElem?_append_right (by omega), Nat.add_sub_cancel_left]
theorem at0 (p r : List UInt8) : chr (tx8 (p ++ r)) p.length = chL r 0 := by rw [zaP]; exact zhq p r 0
theorem atj (p r : List UInt8) (j : Nat) : chr (tx8 (p ++ r)) (p.length + j) = chL r j := by rw [zaP]; exact zhq p r j
theorem of8 {b : Nat} (h : b < 256) : (UInt8.ofNat b).toNat = b := by rw [UInt8.toNat_ofNat']; omega
theorem zgF : ∀ n : Fin 16, zaH ((zbp n.val).toNat : Int) = (n.val : Int) := by decide
theorem zi1 {b : Nat} (h : zaC b = true) : b = 92 ∨ b = 93 ∨ b = 91 ∨ b = 94 ∨ b = 45 ∨ b = 37 := by
 simp [zaC] at h; omega
theorem zia {b : Nat} (h : ¬ zaC b = true) : b ≠ 92 /\ b ≠ 93 /\ b ≠ 91 /\ b ≠ 94 /\ b ≠ 45 /\ b ≠ 37 := by
 simp [zaC] at h; omega
theorem zcB (p r : List UInt8) : zag (tx8 (p ++ (92 :: r))) p.length = zax (tx8 (p ++ (92 :: r))) p.length := by
 unfold zag
 rw [at0]
 exact if_pos rfl
theorem zdG (p r : List UInt8) (c : UInt8) : chr (tx8 (p ++ (92 :: c :: r))) (p.length + 1) = (c.toNat : Int) := by rw [atj]; rfl
theorem zd2 (p q : List UInt8) (b : Nat) (hb : b < 256) : zag (tx8 (p ++ (itm b ++ q))) p.length = some (b, p.length + (itm b).length) := by
 unfold itm
 split
 ·subst b; rw [List.cons_append, zcB]; unfold zax; rw [List.cons_append, zdG]; exact if_pos rfl
 split
 ·subst b; rw [List.cons_append, zcB]; unfold zax; rw [List.cons_append, zdG]; rfl
 split
 ·subst b; rw [List.cons_append, zcB]; unfold zax; rw [List.cons_append, zdG]; rfl
 split
 ·rename_i hs
  rw [List.cons_append, zcB]; unfold zax; rw [List.cons_append, zdG]
  rcases zi1 hs with rfl | rfl | rfl | rfl | rfl | rfl <;> rfl
 split
 ·rename_i hs hp
  obtain ⟨s1, s2, s3, s4, s5, s6⟩ := zia hs
  have e : chL ([UInt8.ofNat b] ++ q) 0 = (b : Int) := by show ((UInt8.ofNat b).toNat : Int) = b; rw [of8 hb]
  unfold zag; rw [at0, e, if_neg (by omega), if_neg (by rw [hp]; simp; omega)]; rfl
 ·have e2 : chL ([92, 120, zbp (b / 16), zbp (b % 16)] ++ q) 2 = ((zbp (b / 16)).toNat : Int) := rfl
  have e3 : chL ([92, 120, zbp (b / 16), zbp (b % 16)] ++ q) 3 = ((zbp (b % 16)).toNat : Int) := rfl
  have h2 := zgF ⟨b / 16, by omega⟩
  have h3 := zgF ⟨b % 16, by omega⟩
  simp only at h2 h3
  have k : zaZ (tx8 (p ++ ([92, 120, zbp (b / 16), zbp (b % 16)] ++ q))) p.length = some (b, p.length + 4) := by
   unfold zaZ
   rw [atj, atj, e2, e3, h2, h3, if_pos (by omega)]
   congr 2
   omega
  rw [List.cons_append, zcB]
  unfold zax
  rw [List.cons_append, zdG]
  exact k
theorem zbM (b : Nat) (hb : b < 256) (q : List UInt8) : chL (itm b ++ q) 0 ≠ 45 /\ chL (itm b ++ q) 0 ≠ 37 /\ chL (itm b ++ q) 0 ≠ 93 /\ chL (itm b ++ q) 0 ≠ 94 := by
 have h92 : ∀ r : List UInt8, chL (92 :: r) 0 = 92 := fun _ => rfl
 unfold itm
 split
 ·rw [List.cons_append, h92]; decide
 split
 ·rw [List.cons_append, h92]; decide
 split
 ·rw [List.cons_append, h92]; decide
 split
 ·rw [List.cons_append, h92]; decide
 split
 ·rename_i hs hp
  obtain ⟨s1, s2, s3, s4, s5, s6⟩ := zia hs
  have e : chL ([UInt8.ofNat b] ++ q) 0 = (b : Int) := by show ((UInt8.ofNat b).toNat : Int) = b; rw [of8 hb]
  rw [e]; omega
 ·rw [List.cons_append, h92]; decide
theorem zk3 (b : Nat) : 1 <= (itm b).length := by
 unfold itm
 repeat' split
 all_goals simp
theorem zhr (p q : List UInt8) (b : Nat) (hb : b < 256) (hq : chL q 0 ≠ 45) : zab (tx8 (p ++ (itm b ++ q))) p.length = .inl (spn b b, p.length + (itm b).length) := by
 unfold zab
 rw [at0, if_neg (zbM b hb q).2.1, zd2 p q b hb]
 have e : chr (tx8 (p ++ (itm b ++ q))) (p.length + (itm b).length) = chL q 0 := by
  rw [<- List.append_assoc, <- List.length_append]; exact at0 _ q
 exact if_neg (by rw [e]; exact hq)
theorem zmV (p q : List UInt8) (lo hi : Nat) (hlo : lo < 256) (hhi : hi < 256) (hle : lo <= hi) : zab (tx8 (p ++ (itm lo ++ (45 :: (itm hi ++ q))))) p.length = .inl (spn lo hi, p.length + (itm lo).length + 1 + (itm hi).length) := by
 unfold zab
 rw [at0, if_neg (zbM lo hlo _).2.1, zd2 p _ lo hlo]
 have e : chr (tx8 (p ++ (itm lo ++ (45 :: (itm hi ++ q))))) (p.length + (itm lo).length) = 45 := by
  rw [<- List.append_assoc, <- List.length_append, at0]; rfl
 have e2 : zag (tx8 (p ++ (itm lo ++ (45 :: (itm hi ++ q))))) (p.length + (itm lo).length + 1) = some (hi, p.length + (itm lo).length + 1 + (itm hi).length) := by
  have h := zd2 (p ++ itm lo ++ [45]) q hi hhi
  rw [show p ++ itm lo ++ [45] ++ (itm hi ++ q) = p ++ (itm lo ++ (45 :: (itm hi ++ q))) from by simp] at h
  have hlen : (p ++ itm lo ++ [(45 : UInt8)]).length = p.length + (itm lo).length + 1 := by simp; omega
  rw [hlen] at h
  exact h
 refine (if_pos e).trans ?_
 rw [e2]
 exact if_neg (by omega)
def unL (l : List (Int × Int)) (s : BitVec 256) : BitVec 256 := l.foldl (fun s p => s ||| spn p.1 p.2) s
theorem zib (p : Int × Int) (l : List (Int × Int)) (s : BitVec 256) : unL (p :: l) s = unL l (s ||| spn p.1 p.2) := rfl
theorem zd3 (p : Int × Int) (l : List (Int × Int)) : zdg (p :: l) = spT p.1.toNat p.2.toNat ++ zdg l := by unfold zdg; rfl
theorem zgG (l : List (Int × Int)) (hl : ∀ p ∈ l, 0 <= p.1 /\ p.1 <= p.2 /\ p.2 < 256) : chL (zdg l ++ [93]) 0 ≠ 45 /\ chL (zdg l ++ [93]) 0 ≠ 94 := by
 cases l with
 | nil => decide
 | cons p l =>
  have h := hl p (by simp)
  rw [zd3]
  unfold spT
  split
  ·rw [List.append_assoc]; have := zbM p.1.toNat (by omega) (zdg l ++ [93]); exact ⟨this.1, this.2.2.2⟩
  split
  ·rw [List.append_assoc, List.append_assoc]; have := zbM p.1.toNat (by omega) (itm p.2.toNat ++ (zdg l ++ [93])); exact ⟨this.1, this.2.2.2⟩
  ·rw [List.append_assoc, List.append_assoc, List.append_assoc]; have := zbM p.1.toNat (by omega) ([45] ++ (itm p.2.toNat ++ (zdg l ++ [93]))); exact ⟨this.1, this.2.2.2⟩
theorem zpu (lo : Nat) (h : lo + 1 < 256) (s : BitVec 256) : s ||| spn lo lo ||| spn ((lo + 1 : Nat) : Int) ((lo + 1 : Nat) : Int) = s ||| spn lo ((lo + 1 : Nat) : Int) := by
 apply BitVec.eq_of_getLsbD_eq
 intro i _
 simp only [BitVec.getLsbD_or]
 rw [zdj _ _ (by omega), zdj _ _ (by omega), zdj _ _ (by omega), Bool.or_assoc]
 congr 1
 rw [Bool.eq_iff_iff]
 simp
 omega
theorem zfc : ∀ (l : List (Int × Int)), (∀ p ∈ l, 0 <= p.1 /\ p.1 <= p.2 /\ p.2 < 256) -> ∀ (p : List UInt8) (s : BitVec 256) (f : Nat), (zdg l).length + 1 <= f →
  zac (tx8 (p ++ (zdg l ++ [93]))) f s p.length = .inl (unL l s, p.length + (zdg l).length) := by
 intro l
 induction l with
 | nil =>
  intro _ p s f hf
  obtain ⟨g, rfl⟩ : ∃ g, f = g + 1 := ⟨f - 1, by simp [zdg] at hf; omega⟩
  rw [za7 (by rw [at0]; rfl)]
  rfl
 | cons a l ih =>
  intro hl p s f hf
  have h := hl a (by simp)
  have hl' : ∀ q ∈ l, 0 <= q.1 /\ q.1 <= q.2 /\ q.2 < 256 := fun q hq => hl q (List.mem_cons_of_mem _ hq)
  have hm := zgG l hl'
  obtain ⟨g, rfl⟩ : ∃ g, f = g + 1 := ⟨f - 1, by omega⟩
  obtain ⟨lo, hlo⟩ : ∃ lo : Nat, a.1 = lo := ⟨a.1.toNat, by omega⟩
  obtain ⟨hi, hhi⟩ : ∃ hi : Nat, a.2 = hi := ⟨a.2.toNat, by omega⟩
  have i1 := zk3 lo
  have i2 := zk3 hi
  rw [zd3, zib, hlo, hhi, Int.toNat_natCast, Int.toNat_natCast]
  rw [zd3, hlo, hhi, Int.toNat_natCast, Int.toNat_natCast] at hf
  unfold spT at hf ⊢
  split
  ·rename_i h0
   obtain rfl : hi = lo := by omega
   rw [if_pos h0, List.length_append] at hf
   rw [List.append_assoc, zaq (by rw [at0]; exact (zbM hi (by omega) _).2.2.1) (zhr p _ hi (by omega) hm.1)]
   have := ih hl' (p ++ itm hi) (s ||| spn hi hi) g (by omega)
   rw [List.append_assoc, List.length_append] at this
   rw [this, List.length_append]
   congr 2
   omega
  ·rename_i h0
   rw [if_neg h0] at hf
   split
   ·rename_i h1
    obtain rfl : hi = lo + 1 := by omega
    rw [if_pos h1, List.length_append, List.length_append] at hf
    obtain ⟨g', rfl⟩ : ∃ g', g = g' + 1 := ⟨g - 1, by omega⟩
    rw [List.append_assoc, List.append_assoc, zaq (by rw [at0]; exact (zbM lo (by omega) _).2.2.1) (zhr p _ lo (by omega) (zbM (lo + 1) (by omega) _).1)]
    have e := zhr (p ++ itm lo) (zdg l ++ [93]) (lo + 1) (by omega) hm.1
    rw [List.append_assoc, List.length_append] at e
    have e0 : ¬ chr (tx8 (p ++ (itm lo ++ (itm (lo + 1) ++ (zdg l ++ [93]))))) (p.length + (itm lo).length) = 93 := by
     rw [<- List.append_assoc, <- List.length_append, at0]; exact (zbM (lo + 1) (by omega) _).2.2.1
    rw [zaq e0 e]
    have := ih hl' (p ++ itm lo ++ itm (lo + 1)) (s ||| spn lo lo ||| spn ((lo + 1 : Nat) : Int) ((lo + 1 : Nat) : Int)) g' (by omega)
    rw [List.append_assoc, List.append_assoc, List.length_append, List.length_append] at this
    rw [this, List.length_append, List.length_append, zpu lo (by omega)]
    congr 2
    omega
   ·rename_i h1
    rw [if_neg h1, List.length_append, List.length_append, List.length_append] at hf
    rw [show itm lo ++ [45] ++ itm hi ++ zdg l ++ [93] = itm lo ++ (45 :: (itm hi ++ (zdg l ++ [93]))) from by simp]
    rw [zaq (by rw [at0]; exact (zbM lo (by omega) _).2.2.1) (zmV p _ lo hi (by omega) (by omega) (by omega))]
    have hlen : (p ++ itm lo ++ [(45 : UInt8)] ++ itm hi).length = p.length + (itm lo).length + 1 + (itm hi).length := by simp; omega
    have := ih hl' (p ++ itm lo ++ [45] ++ itm hi) (s ||| spn lo hi) g (by simp at hf; omega)
    rw [show p ++ itm lo ++ [45] ++ itm hi ++ (zdg l ++ [93]) = p ++ (itm lo ++ (45 :: (itm hi ++ (zdg l ++ [93])))) from by simp, hlen] at this
    rw [this]
    congr 2
    simp
    omega
end Go.Proofs.YtkihfkcmcdiajaaGreatDoor
