/- DERIVED. Plain mathematics and walks, laid together (18). -/
import Derived.Deep.RegionHeld3
import Derived.Deep.RegionLaw
import Derived.Test.YtnpifgcgjgddoaaGreatDoorPb17
set_option maxRecDepth 100000
set_option maxHeartbeats 8000000
namespace Go.Proofs.YtnpifgcgjgddoaaGreatDoor.N
open Go.RowKit
def KdF (W : World) (b : Nat) (u : Value) (ks : List Nat) : Prop := ∃ A c, u = .slice A ks.length c /\ (ks ≠ [] -> ∃ g cur, A = some ⟨g, 0, none⟩ /\ Fx W b g cur 3 /\ ∀ (i j : Nat), ks[i]? = some j -> cur[i]? = some (.int .i64 j))
theorem KdF.keep {W W' : World} {b : Nat} {u : Value} {ks : List Nat} (h : KdF W b u ks) (k : KeepT b W W') : KdF W' b u ks := by
 obtain ⟨A, c, e, h⟩ := h
 refine ⟨A, c, e, fun hne => ?_⟩
 obtain ⟨g, cur, h1, h2, h3⟩ := h hne
 exact ⟨g, cur, h1, h2.keep k, h3⟩
theorem KdF.of {W : World} {B b : Nat} {u : Value} {ks : List Nat} (h : KdE W B none u ks) (hb : b < B) : KdF W b u ks := by
 obtain ⟨A, c, e, h⟩ := h
 refine ⟨A, c, e, fun hne => ?_⟩
 obtain ⟨g, cur, h1, h2, h3, h4, h5⟩ := h hne
 exact ⟨g, cur, h1, ⟨⟨_, h4⟩, by omega, by decide⟩, h5⟩
abbrev zf0 (b : Nat) : Value := .func (.func 27) #[.pointer (some ⟨b, 0, none⟩)] #[]
structure Tl (W : World) (b tb : Nat) (L : List Nd) (gp op cp : Nat) : Prop where
 t : ∃ g, Fx W b tb #[.slice (some ⟨gp, op, none⟩) L.length cp, .slice (some ⟨g, 0, none⟩) L.length L.length, zf0 b] 93 /\ ∃ cur, Fx W b g cur 67 /\ ∀ j, j < L.length -> ∃ u, cur[j]? = some u /\ KdF W b u (kds L j)
 n : T.NdL W gp op L
 l : gp < b
theorem Tl.keep {W W' : World} {b tb : Nat} {L : List Nd} {gp op cp : Nat} (h : Tl W b tb L gp op cp) (k : KeepT b W W') (hb : Below b W W') : Tl W' b tb L gp op cp := by
 obtain ⟨⟨g, h1, cur, h2, h3⟩, h4, h5⟩ := h
 refine ⟨⟨g, h1.keep k, cur, h2.keep k, fun j hj => ?_⟩, h4.same (hb.block gp h5), h5⟩
 obtain ⟨u, q1, q2⟩ := h3 j hj
 exact ⟨u, q1, q2.keep k⟩
theorem Tl.pg {W W' : World} {b tb : Nat} {L : List Nd} {gp op cp : Nat} {bs : List UInt8} (h : Tl W b tb L gp op cp) (p : Pg b W W' bs) : Tl W' b tb L gp op cp := h.keep p.k p.bl
theorem Tl.later {W W' : World} {b tb : Nat} {L : List Nd} {gp op cp : Nat} (h : Tl W b tb L gp op cp) (hl : b < W.heap.size) (hb : Below W.heap.size W W') : Tl W' b tb L gp op cp := h.keep (KeepT.below hb) (hb.mono (Nat.le_of_lt hl))
def NodC (L : List Nd) (b tb gp op cp k : Nat) : Prop := ∀ (W : World) (bs : List UInt8), Tl W b tb L gp op cp -> Lib.IsBuilder 59 5 b b (Lib.byteCells bs) W -> bs.length + (itT (enX L k).2).length <= 100000000 -> Calls Tryz.prog 73 #[.pointer (some ⟨tb, 0, none⟩), .int .i64 k] W fun e W' => e = .returned (.tuple #[]) /\ Pg b W W' (bs ++ itT (enX L k).2)
def ParC (L : List Nd) (b tb gp op cp k d : Nat) : Prop := ∀ (W : World) (bs : List UInt8), Tl W b tb L gp op cp -> Lib.IsBuilder 59 5 b b (Lib.byteCells bs) W -> bs.length + (itT (zat d (enX L k))).length <= 100000000 -> Calls Tryz.prog 49 #[.pointer (some ⟨tb, 0, none⟩), .int .i64 k, .int .i64 d] W fun e W' => e = .returned (.tuple #[]) /\ Pg b W W' (bs ++ itT (zat d (enX L k)))
theorem zdz {W : World} {b : Nat} {bs : List UInt8} (s : ByteArray) (h : Lib.IsBuilder 59 5 b b (Lib.byteCells bs) W) (hl : bs.length + s.data.toList.length <= 140737488355328) : Calls Tryz.prog 27 #[.pointer (some ⟨b, 0, none⟩), .slice (some ⟨W.heap.size, 0, none⟩) 1 1] (W.alloc (.cells #[.string s] 9)) fun e W' => e = .returned (.tuple #[]) /\ Pg b W W' (bs ++ s.data.toList) := by
 have hlt := zhx h
 have e : zeE [s] = s.data.toList := by unfold zeE; rw [List.flatMap_cons, List.flatMap_nil, List.append_nil]
 refine (zlo b W.heap.size bs [s] (W.alloc (.cells #[.string s] 9)) (zfV h (zaa W _)) ⟨⟨_, heap_alloc_new W _⟩, by omega, by decide⟩ (by rw [e]; exact hl) (Nat.le_succ 1)).mono ?_
 rintro e' W' ⟨rfl, hp⟩
 refine ⟨rfl, ?_⟩
 rw [e] at hp
 exact ((Pg.start h).later (zaa W _)).trans hp
theorem znJ {W : World} {b : Nat} {bs : List UInt8} (s t : ByteArray) (h : Lib.IsBuilder 59 5 b b (Lib.byteCells bs) W) (hl : bs.length + (s.data.toList ++ t.data.toList).length <= 140737488355328) : Calls Tryz.prog 27 #[.pointer (some ⟨b, 0, none⟩), .slice (some ⟨W.heap.size, 0, none⟩) 2 2] (W.alloc (.cells #[.string s, .string t] 9)) fun e W' => e = .returned (.tuple #[]) /\ Pg b W W' (bs ++ (s.data.toList ++ t.data.toList)) := by
 have hlt := zhx h
 have e : zeE [s, t] = s.data.toList ++ t.data.toList := by unfold zeE; rw [List.flatMap_cons, List.flatMap_cons, List.flatMap_nil, List.append_nil]
 refine (zlo b W.heap.size bs [s, t] (W.alloc (.cells #[.string s, .string t] 9)) (zfV h (zaa W _)) ⟨⟨_, heap_alloc_new W _⟩, by omega, by decide⟩ (by rw [e]; exact hl) (Nat.le_refl 2)).mono ?_
 rintro e' W' ⟨rfl, hp⟩
 refine ⟨rfl, ?_⟩
 rw [e] at hp
 exact ((Pg.start h).later (zaa W _)).trans hp
theorem zeH {W : World} {b : Nat} {bs : List UInt8} (s : ByteArray) (h : Lib.IsBuilder 59 5 b b (Lib.byteCells bs) W) (hl : bs.length + s.data.toList.length <= 140737488355328) : Calls Tryz.prog 27 #[.pointer (some ⟨b, 0, none⟩), .slice (some ⟨W.heap.size, 0, none⟩) 1 1] (W.alloc (.cells #[.string s] 9)).drew fun e W' => e = .returned (.tuple #[]) /\ Pg b W W' (bs ++ s.data.toList) := by
 have hq := (Pg.start h).later ((Below.refl W.heap.size W).drew)
 have hc := zdz (W := W.drew) s hq.i hl
 have e : W.drew.alloc (.cells #[.string s] 9) = (W.alloc (.cells #[.string s] 9)).drew := rfl
 rw [e] at hc
 refine Calls.mono hc ?_
 rintro e W' ⟨rfl, hp⟩
 exact ⟨rfl, hq.trans hp⟩
theorem zlU {L : List Nd} {b tb gp op cp k : Nat} {n : Nd} (hn : L[k]? = some n) (he : ∀ j, j <= k -> T.er L j = 0) (hc : NodC L b tb gp op cp k) (d : Nat) (_hd : d <= 6) : ParC L b tb gp op cp k d := by
 intro W bs hT hB hl
 have hk : k < L.length := (List.getElem?_eq_some_iff.1 hn).1
 have hh := en_hld hn he
 obtain ⟨g, ht, _⟩ := hT.t
 have a0 := ht.cell 0
 have a2 := ht.cell 2
 obtain ⟨c0, _⟩ := hT.n k n hn
 have a0' : W.cell? ⟨tb, 0, none⟩ = some (.slice (some ⟨gp, op, none⟩) L.length cp) := a0
 have a2' : W.cell? ⟨tb, 2, none⟩ = some (zf0 b) := a2
 have HH : Hid (∀ w, Calls Tryz.prog 72 #[.int .i64 n.op] w fun e w' => e = .returned (.int .i64 (hld n.op)) /\ w' = w) := fun w => zgK n.op w
 have z0 : (0 : Int) <= (k : Int) := by omega
 have z1 : (k : Int) < (L.length : Int) := by omega
 have hle := zlP n.op
 have HT := hO hT
 have HB := hO hB
 have HC : Hid (NodC L b tb gp op cp k) := hc
 clear hT hB ht a0 a2 hc
 by_cases hx : hld n.op < d
 ·have e : zat d (enX L k) = [sgI 16] ++ ((enX L k).2 ++ [sgI 17]) := by unfold zat; rw [if_pos (by rw [hh]; exact hx)]
  have e2 : itT (zat d (enX L k)) = [40] ++ (itT (enX L k).2 ++ [41]) := by rw [e, zaO, zaO]; rfl
  rw [e2] at hl ⊢
  have zz : ¬ ((d : Int) <= ((hld n.op : Nat) : Int)) := by omega
  have HE := hO e2
  clear e e2 hh he hn hx
  rw [List.length_append, List.length_append] at hl
  have hl' : bs.length + (1 + ((itT (enX L k).2).length + 1)) <= 100000000 := hl
  have HL := hO hl'
  clear hl hl'
  generalize hld n.op = m at *
  go_enter Tryz.func49, Tryz.ntmps49
  go_wp2_with fail
  refine (HH.out _).mono ?_
  rintro e w1 ⟨rfl, rfl⟩
  go_wp2_with fail
  refine (zdz ⟨#[40]⟩ HB.out (by have := HL.out; show bs.length + 1 <= _; omega)).mono ?_
  rintro e w2 ⟨rfl, p1⟩
  have HP1 : Hid (Pg b w1 w2 (bs ++ [40])) := p1
  have HT1 : Hid (Tl w2 b tb L gp op cp) := HT.out.pg p1
  have HN : Hid (∀ _ : Unit, Calls Tryz.prog 73 #[.pointer (some ⟨tb, 0, none⟩), .int .i64 k] w2 fun e W' => e = .returned (.tuple #[]) /\ Pg b w2 W' ((bs ++ [40]) ++ itT (enX L k).2)) := fun _ => HC.out w2 (bs ++ [40]) HT1.out p1.i (by have := HL.out; rw [List.length_append]; show bs.length + 1 + _ <= _; omega)
  clear p1 a0' a2' c0
  go_wp2_with fail
  refine (HN.out ()).mono ?_
  rintro e w3 ⟨rfl, p2⟩
  have HP2 : Hid (Pg b w1 w3 ((bs ++ [40]) ++ itT (enX L k).2)) := HP1.out.trans p2
  have HT2 : Hid (Tl w3 b tb L gp op cp) := HT1.out.pg p2
  obtain ⟨g2, ht2, _⟩ := HT2.out.t
  have a2 : w3.cell? ⟨tb, 2, none⟩ = some (zf0 b) := ht2.cell 2
  clear p2 ht2 HN HP1 HT1
  go_wp2_with fail
  refine (zdz ⟨#[41]⟩ HP2.out.i (by have := HL.out; rw [List.length_append, List.length_append]; show bs.length + 1 + _ + 1 <= _; omega)).mono ?_
  rintro e w4 ⟨rfl, p3⟩
  have HP3 : Hid (Pg b w1 w4 (((bs ++ [40]) ++ itT (enX L k).2) ++ [41])) := HP2.out.trans p3
  clear p3 HP2
  go_wp2_with fail
  go_end0
  refine ⟨rfl, ?_⟩
  have := HP3.out
  rw [List.append_assoc, List.append_assoc] at this
  exact this
 ·have e : zat d (enX L k) = (enX L k).2 := by unfold zat; rw [if_neg (by rw [hh]; exact hx)]
  rw [e] at hl ⊢
  have zz : ((d : Int) <= ((hld n.op : Nat) : Int)) := by omega
  have HN : Hid (∀ _ : Unit, Calls Tryz.prog 73 #[.pointer (some ⟨tb, 0, none⟩), .int .i64 k] W fun e W' => e = .returned (.tuple #[]) /\ Pg b W W' (bs ++ itT (enX L k).2)) := fun _ => HC.out W bs HT.out HB.out hl
  clear e hh he hn hx hl
  generalize hld n.op = m at *
  go_enter Tryz.func49, Tryz.ntmps49
  go_wp2_with fail
  refine (HH.out _).mono ?_
  rintro e w1 ⟨rfl, rfl⟩
  go_wp2_with fail
  refine (HN.out ()).mono ?_
  rintro e w3 ⟨rfl, p2⟩
  have HP2 := hO p2
  clear p2
  go_wp2_with fail
  refine bodyPost_ret (v := .tuple #[]) (by simp [results, Tryz.results49, go_sem]) rfl ⟨rfl, HP2.out⟩
theorem znK (L : List Nd) (n : Nd) (ks : List Nat) (i : Nat) : ∀ d, (kdT L n ks i).length <= (kdT L n ks (i + d)).length := by
 intro d
 induction d with
 | zero => exact Nat.le_refl _
 | succ d ih =>
  refine Nat.le_trans ih ?_
  show _ <= (kdT L n ks (i + d + 1)).length
  rw [kdT]
  split
  ·rw [List.length_append]; omega
  ·exact Nat.le_refl _
theorem kdT_le {L : List Nd} {n : Nd} {ks : List Nat} {i m : Nat} (h : i <= m) : (kdT L n ks i).length <= (kdT L n ks m).length := by
 have := znK L n ks i (m - i)
 rwa [show i + (m - i) = m from by omega] at this
structure NdS (L : List Nd) (b tb gp op cp : Nat) (n : Nd) (nb fb : Nat) (wr : World) : Prop where
 t : Tl wr b tb L gp op cp
 nd : Fx wr b nb #[.int .i64 n.op, .int .i64 n.nn, .string n.tx, .int .u64 n.s0, .int .u64 n.s1, .int .u64 n.s2, .int .u64 n.s3] 51
 f : Fx wr b fb #[.string (frA n), .string (frB n), .string (frC n)] 143
theorem NdS.pg {L : List Nd} {b tb gp op cp : Nat} {n : Nd} {nb fb : Nat} {wr w' : World} {bs : List UInt8} (h : NdS L b tb gp op cp n nb fb wr) (p : Pg b wr w' bs) : NdS L b tb gp op cp n nb fb w' := ⟨h.t.pg p, h.nd.keep p.k, h.f.keep p.k⟩
theorem zq3 {L : List Nd} {b tb gp op cp k : Nat} {n : Nd} (hn : L[k]? = some n) (he : ∀ j, j <= k -> T.er L j = 0) (hw : NdW n) (_hL : L.length <= 2048) (hc : ∀ j ∈ kds L k, ∀ d, d <= 6 -> ParC L b tb gp op cp j d) : NodC L b tb gp op cp k := by
 intro W bs hT hB hl
 have hk : k < L.length := (List.getElem?_eq_some_iff.1 hn).1
 have hok := T.zeM hn (he k (Nat.le_refl _))
 have hal := hok.al
 obtain ⟨g, ht, _⟩ := hT.t
 have a0 : W.cell? ⟨tb, 0, none⟩ = some (.slice (some ⟨gp, op, none⟩) L.length cp) := ht.cell 0
 obtain ⟨c0, c1, c2, c3, c4, c5, c6⟩ := hT.n k n hn
 have z0 : (0 : Int) <= (k : Int) := by omega
 have z1 : (k : Int) < (L.length : Int) := by omega
 have HF : Hid (∀ w, Calls Tryz.prog 95 #[T.ndG n] w fun e w' => e = .returned (frG (frA n) (frB n) (frC n)) /\ Below w.heap.size w w') := fun w => zlT n hal hw w
 have HX : Hid (itT (enX L k).2 = (frA n).data.toList ++ (kdT L n (kds L k) (kds L k).length ++ (frC n).data.toList)) := zq0 hn he
 have HC := hO hc
 have HKl := (show Hid (∀ i j, (kds L k)[i]? = some j -> j < L.length /\ j ∈ kds L k /\ i <= 1) from fun i j hij => by
  have hm := List.mem_of_getElem? hij
  have h1 := zox hn he j hm
  have h2 := (List.getElem?_eq_some_iff.1 hij).1
  have h3 := zeG L k
  have h4 := T.zb5 (T.zcR L k)
  exact ⟨by omega, hm, by omega⟩)
 have hlt := zhx hB
 have HT := hO hT
 have HB := hO hB
 have HL := hO hl
 clear hT hB hl hc ht hok hal he hw
 go_enter Tryz.func73, Tryz.ntmps73
 go_wp2_with fail
 refine (HF.out _).mono ?_
 rintro e w2 ⟨rfl, b2⟩
 have HS := (show Hid (NdS L b tb gp op cp n W.heap.size w2.heap.size (w2.alloc (.cells #[.string (frA n), .string (frB n), .string (frC n)] 143))) from by
  have hb1 := (zaa W (T.ndO n))
  have hb2 : Below W.heap.size W w2 := hb1.trans (b2.mono hb1.size)
  have hb3 : Below W.heap.size W (w2.alloc (.cells #[.string (frA n), .string (frB n), .string (frC n)] 143)) := hb2.alloc hb2.size _
  have hsz : W.heap.size < w2.heap.size := by have := b2.size; rw [World.size_alloc] at this; omega
  refine ⟨HT.out.later hlt hb3, ⟨⟨(0, 0), ?_⟩, by omega, by decide⟩, ⟨⟨_, heap_alloc_new w2 _⟩, by omega, by decide⟩⟩
  rw [(zaa w2 _).block W.heap.size hsz, b2.block W.heap.size (by rw [World.size_alloc]; omega)]
  exact heap_alloc_new W _)
 have HP := (show Hid (Pg b W (w2.alloc (.cells #[.string (frA n), .string (frB n), .string (frC n)] 143)) bs) from (Pg.start HB.out).later (by
  have hb1 := (zaa W (T.ndO n))
  have hb2 : Below W.heap.size W w2 := hb1.trans (b2.mono hb1.size)
  exact hb2.alloc hb2.size _))
 clear b2 HF HT HB a0 c0 c1 c2 c3 c4 c5 c6 hlt
 go_wp2_with fail
 generalize w2.alloc (.cells #[.string (frA n), .string (frB n), .string (frC n)] 143) = w3 at *
 generalize w2.heap.size = fb at *
 obtain ⟨g, ht, cur, hcu, hcr⟩ := HS.out.t.t
 have a2 : w3.cell? ⟨tb, 2, none⟩ = some (zf0 b) := ht.cell 2
 have f0 : w3.cell? ⟨fb, 0, none⟩ = some (.string (frA n)) := HS.out.f.cell 0
 have HTl : Hid (∀ _ : Unit, Calls Tryz.prog 27 #[.pointer (some ⟨b, 0, none⟩), .slice (some ⟨w3.heap.size, 0, none⟩) 1 1] (w3.alloc (.cells #[.string (frA n)] 9)).drew fun e W'' => e = .returned (.tuple #[]) /\ Pg b w3 W'' (bs ++ (frA n).data.toList)) := fun _ => zeH (frA n) HP.out.i (by have := HL.out; rw [HX.out, List.length_append] at this; omega)
 have HKa : Hid (∀ W' bs', Pg b w3 W' bs' -> W'.cell? ⟨tb, 2, none⟩ = some (zf0 b) /\ W'.cell? ⟨fb, 0, none⟩ = some (.string (frA n))) := fun W' bs' hp => ⟨(ht.keep hp.k).cell 2, (HS.out.f.keep hp.k).cell 0⟩
 clear ht
 go_region_held3 (fun W => W.cell? ⟨tb, 2, none⟩ = some (zf0 b) /\ W.cell? ⟨fb, 0, none⟩ = some (.string (frA n))) (first | go_keep | exact HKa.out _ _ hp) ((with_reducible refine (HTl.out ()).mono ?_; rintro e wA ⟨rfl, hp⟩))
 have HP1 : Hid (Pg b W wA (bs ++ (frA n).data.toList)) := HP.out.trans hp
 have HS1 : Hid (NdS L b tb gp op cp n W.heap.size fb wA) := HS.out.pg hp
 rename_i hHeld
 clear hHeld hp HKa HTl a2 f0 HS HP hcu hcr cur g
 obtain ⟨g, ht, cur, hcu, hcr⟩ := HS1.out.t.t
 obtain ⟨u, hu, A, c, rfl, hA⟩ := hcr k hk
 have d1 : wA.cell? ⟨tb, 1, none⟩ = some (.slice (some ⟨g, 0, none⟩) L.length L.length) := ht.cell 1
 have d2 : wA.cell? ⟨g, k, none⟩ = some (.slice A (kds L k).length c) := (hcu.cell k).trans hu
 have HG := (show Hid (∀ (i j : Nat), (kds L k)[i]? = some j -> ∃ gg, A = some ⟨gg, 0, none⟩ /\ ∀ wr bs', Pg b wA wr bs' -> wr.cell? ⟨gg, i, none⟩ = some (.int .i64 j)) from fun i j hij => by
  obtain ⟨gg, cc, e, hf, hc⟩ := hA (by rintro e; rw [e] at hij; cases hij)
  exact ⟨gg, e, fun wr bs' hp => ((hf.keep hp.k).cell i).trans (hc i j hij)⟩)
 have H0 := (show Hid (Pg b wA wA ((bs ++ (frA n).data.toList) ++ kdT L n (kds L k) 0)) from by
  show Pg b wA wA ((bs ++ (frA n).data.toList) ++ [])
  rw [List.append_nil]
  exact Pg.start HP1.out.i)
 have HK : Hid (∀ i, i < (kds L k).length -> ∃ j, (kds L k)[i]? = some j) := fun i hi => ⟨_, List.getElem?_eq_getElem hi⟩
 have hm2 : (kds L k).length <= 2 := by rw [zeG]; exact T.zb5 _
 have HLe := (show Hid (∀ i, i <= (kds L k).length -> bs.length + ((frA n).data.toList.length + ((kdT L n (kds L k) i).length + (frC n).data.toList.length)) <= 100000000) from fun i hi => by
  have h1 := HL.out
  rw [HX.out, List.length_append, List.length_append] at h1
  have h2 := kdT_le (L := L) (n := n) (ks := kds L k) hi
  omega)
 have HXm : Hid (∀ m, (kds L k).length = m -> itT (enX L k).2 = (frA n).data.toList ++ (kdT L n (kds L k) m ++ (frC n).data.toList)) := fun m e => by rw [<- e]; exact HX.out
 clear ht hcu hcr hu hA hn HX HL
 generalize hks : kds L k = ks at *
 clear hks
 generalize hm : ks.length = m at *
 go_wp2_with fail
 go_loopw [33] (fun t wr => ∃ i : Nat, i <= m /\ t = .int .i64 i /\ Hid (Pg b wA wr ((bs ++ (frA n).data.toList) ++ kdT L n ks i))) (fun t _ => m - (intOf t).toNat)
 case atStart => exact ⟨0, by omega, by go_num, H0⟩
 case round =>
  obtain ⟨i, hi, rfl, HW⟩ := hrel
  clear H0
  by_cases hlt : i < m
  ·obtain ⟨j, hj⟩ := HK.out i hlt
   obtain ⟨gg, rfl, hgc⟩ := HG.out i j hj
   obtain ⟨hjL, hjm, hi1⟩ := HKl.out i j hj
   have e0 := hgc wr _ HW.out
   have HSr : Hid (NdS L b tb gp op cp n W.heap.size fb wr) := HS1.out.pg HW.out
   have z2 : (0 : Int) <= (i : Int) := by omega
   have z3 : (i : Int) < (m : Int) := by omega
   have HA : Hid (∀ w, Calls Tryz.prog 96 #[.int .i64 n.op, .int .i64 i] w fun e w' => e = .returned (.int .i64 (asK n.op i)) /\ w' = w) := fun w => znI n.op i (by omega) w
   have hask : asK n.op i <= 6 := by
    unfold asK
    have := zlP n.op
    split <;> omega
   have HPc : Hid (ParC L b tb gp op cp j (asK n.op i)) := HC.out j hjm _ hask
   have hle := HLe.out (i + 1) (by omega)
   have hE := zea (L := L) (n := n) hj
   clear hj hjm HKl HK HG hgc HLe
   by_cases hi0 : i = 0
   ·rw [if_pos hi0, List.nil_append] at hE
    rw [hE, List.length_append] at hle
    have HE := hO hE
    have b0 : wr.cell? ⟨W.heap.size, 0, none⟩ = some (.int .i64 n.op) := HSr.out.nd.cell 0
    have HCp : Hid (∀ _ : Unit, Calls Tryz.prog 49 #[.pointer (some ⟨tb, 0, none⟩), .int .i64 j, .int .i64 (asK n.op i)] wr fun e W' => e = .returned (.tuple #[]) /\ Pg b wr W' (((bs ++ (frA n).data.toList) ++ kdT L n ks i) ++ itT (zat (asK n.op i) (enX L j)))) := fun _ => HPc.out wr _ HSr.out.t HW.out.i (by rw [List.length_append, List.length_append]; omega)
    have zi : ¬ (0 : Int) < (i : Int) := by omega
    clear hle hE HPc HC hi0
    generalize asK n.op i = aa at *
    go_wp2_with fail
    refine (HA.out _).mono ?_
    rintro e w2 ⟨rfl, rfl⟩
    go_wp2_with fail
    refine (HCp.out ()).mono ?_
    rintro e w5 ⟨rfl, p5⟩
    have HW2 := (show Hid (Pg b wA w5 ((bs ++ (frA n).data.toList) ++ kdT L n ks (i + 1))) from by
     show Pg b wA w5 _
     rw [HE.out, <- List.append_assoc]
     exact HW.out.trans p5)
    clear p5 HCp HW HSr HE b0 e0 HA
    go_wp2_with fail
    go_roundw
    case rel => exact ⟨i + 1, by omega, by go_num, HW2⟩
    case measure => simp [intOf]; omega
   ·rw [if_neg hi0] at hE
    rw [hE, List.length_append, List.length_append] at hle
    have HE := hO hE
    have zi : (0 : Int) < (i : Int) := by omega
    obtain ⟨g2, ht2, _⟩ := HSr.out.t.t
    have a2 : wr.cell? ⟨tb, 2, none⟩ = some (zf0 b) := ht2.cell 2
    have f1 : wr.cell? ⟨fb, 1, none⟩ = some (.string (frB n)) := HSr.out.f.cell 1
    have HTl : Hid (∀ _ : Unit, Calls Tryz.prog 27 #[.pointer (some ⟨b, 0, none⟩), .slice (some ⟨wr.heap.size, 0, none⟩) 1 1] (wr.alloc (.cells #[.string (frB n)] 9)).drew fun e W'' => e = .returned (.tuple #[]) /\ Pg b wr W'' (((bs ++ (frA n).data.toList) ++ kdT L n ks i) ++ (frB n).data.toList)) := fun _ => zeH (frB n) HW.out.i (by rw [List.length_append, List.length_append]; omega)
    have HKa : Hid (∀ W' bs', Pg b wr W' bs' -> W'.cell? ⟨tb, 2, none⟩ = some (zf0 b) /\ W'.cell? ⟨fb, 1, none⟩ = some (.string (frB n))) := fun W' bs' hp => ⟨(ht2.keep hp.k).cell 2, (HSr.out.f.keep hp.k).cell 1⟩
    have HLl := hO hle
    clear hle hE hi0 ht2
    go_wp2_with fail
    go_region_held3 (fun W => W.cell? ⟨tb, 2, none⟩ = some (zf0 b) /\ W.cell? ⟨fb, 1, none⟩ = some (.string (frB n))) (first | go_keep | exact HKa.out _ _ hp) ((with_reducible refine (HTl.out ()).mono ?_; rintro e wB ⟨rfl, hp⟩))
    rename_i hHeld
    have HWB : Hid (Pg b wA wB (((bs ++ (frA n).data.toList) ++ kdT L n ks i) ++ (frB n).data.toList)) := HW.out.trans hp
    have HSB : Hid (NdS L b tb gp op cp n W.heap.size fb wB) := HSr.out.pg hp
    have b0 : wB.cell? ⟨W.heap.size, 0, none⟩ = some (.int .i64 n.op) := HSB.out.nd.cell 0
    have HCp : Hid (∀ _ : Unit, Calls Tryz.prog 49 #[.pointer (some ⟨tb, 0, none⟩), .int .i64 j, .int .i64 (asK n.op i)] wB fun e W' => e = .returned (.tuple #[]) /\ Pg b wB W' ((((bs ++ (frA n).data.toList) ++ kdT L n ks i) ++ (frB n).data.toList) ++ itT (zat (asK n.op i) (enX L j)))) := fun _ => HPc.out wB _ HSB.out.t HWB.out.i (by rw [List.length_append, List.length_append, List.length_append]; have := HLl.out; omega)
    clear hHeld hp HKa HTl a2 f1 HSr HW HLl HPc HC
    generalize asK n.op i = aa at *
    go_wp2_with fail
    refine (HA.out _).mono ?_
    rintro e w2 ⟨rfl, rfl⟩
    go_wp2_with fail
    refine (HCp.out ()).mono ?_
    rintro e w5 ⟨rfl, p5⟩
    have HW2 := (show Hid (Pg b wA w5 ((bs ++ (frA n).data.toList) ++ kdT L n ks (i + 1))) from by
     show Pg b wA w5 _
     rw [HE.out, <- List.append_assoc, <- List.append_assoc]
     exact HWB.out.trans p5)
    clear p5 HCp HWB HSB HE b0 e0 HA
    go_wp2_with fail
    go_roundw
    case rel => exact ⟨i + 1, by omega, by go_num, HW2⟩
    case measure => simp [intOf]; omega
  ·obtain rfl : i = m := by omega
   have z3 : ¬ (i : Int) < (i : Int) := by omega
   have HSr : Hid (NdS L b tb gp op cp n W.heap.size fb wr) := HS1.out.pg HW.out
   have hle := HLe.out i (Nat.le_refl _)
   obtain ⟨g2, ht2, _⟩ := HSr.out.t.t
   have a2 : wr.cell? ⟨tb, 2, none⟩ = some (zf0 b) := ht2.cell 2
   have f1 : wr.cell? ⟨fb, 2, none⟩ = some (.string (frC n)) := HSr.out.f.cell 2
   have HTl : Hid (∀ _ : Unit, Calls Tryz.prog 27 #[.pointer (some ⟨b, 0, none⟩), .slice (some ⟨wr.heap.size, 0, none⟩) 1 1] (wr.alloc (.cells #[.string (frC n)] 9)).drew fun e W'' => e = .returned (.tuple #[]) /\ Pg b wr W'' (((bs ++ (frA n).data.toList) ++ kdT L n ks i) ++ (frC n).data.toList)) := fun _ => zeH (frC n) HW.out.i (by rw [List.length_append, List.length_append]; omega)
   have HKa : Hid (∀ W' bs', Pg b wr W' bs' -> W'.cell? ⟨tb, 2, none⟩ = some (zf0 b) /\ W'.cell? ⟨fb, 2, none⟩ = some (.string (frC n))) := fun W' bs' hp => ⟨(ht2.keep hp.k).cell 2, (HSr.out.f.keep hp.k).cell 2⟩
   have HXe := hO (HXm.out i rfl)
   clear hle ht2 HLe HKl HK HG HC
   go_wp2_with fail
   go_region_held3 (fun W => W.cell? ⟨tb, 2, none⟩ = some (zf0 b) /\ W.cell? ⟨fb, 2, none⟩ = some (.string (frC n))) (first | go_keep | exact HKa.out _ _ hp) ((with_reducible refine (HTl.out ()).mono ?_; rintro e wB ⟨rfl, hp⟩))
   rename_i hHeld
   have HWB := (show Hid (Pg b W wB (bs ++ itT (enX L k).2)) from by
    show Pg b W wB _
    rw [HXe.out, <- List.append_assoc, <- List.append_assoc]
    exact (HP1.out.trans HW.out).trans hp)
   clear hHeld hp HKa HTl a2 f1 HSr HW
   go_wp2_with fail
   go_end0
   exact ⟨rfl, HWB.out⟩
theorem znL {L : List Nd} {b tb gp op cp : Nat} (he : ∀ j, j < L.length -> T.er L j = 0) (hw : ∀ n ∈ L, NdW n) (hL : L.length <= 2048) : ∀ m k, k < m -> k < L.length -> NodC L b tb gp op cp k := by
 intro m
 induction m with
 | zero => intro k hk; omega
 | succ m ih =>
  intro k hk hkl
  have hn : L[k]? = some L[k] := List.getElem?_eq_getElem hkl
  refine zq3 hn (fun j hj => he j (by omega)) (hw _ (List.getElem_mem hkl)) hL fun j hj d hd => ?_
  have hjk := zox hn (fun j hj => he j (by omega)) j hj
  exact zlU (List.getElem?_eq_getElem (show j < L.length by omega)) (fun i hi => he i (by omega)) (ih j (by omega) (by omega)) d hd
theorem znM {L : List Nd} {b tb gp op cp : Nat} (he : ∀ j, j < L.length -> T.er L j = 0) (hw : ∀ n ∈ L, NdW n) (hL : L.length <= 2048) (k d : Nat) (hk : k < L.length) (hd : d <= 6) : ParC L b tb gp op cp k d :=
 zlU (List.getElem?_eq_getElem hk) (fun i hi => he i (by omega)) (znL he hw hL (k + 1) k (by omega) hk) d hd
theorem fr_len {n : Nd} (h : T.alE n = 0) : (frA n).size <= 3004 /\ (frB n).size <= 3004 /\ (frC n).size <= 3004 := by
 rcases zdV h with ⟨z, o⟩ | ⟨z, o⟩ | ⟨z, o⟩
 ·rcases o with o | o | o | o | o | o | o
  ·obtain ⟨fa, fb, fc⟩ := fr1 o
   rw [fa, fb, fc]
   exact ⟨by decide, by decide, by decide⟩
  ·obtain ⟨fa, fb, fc⟩ := fr2 o
   rw [fa, fb, fc]
   exact ⟨by decide, by decide, by decide⟩
  ·obtain ⟨fa, fb, fc⟩ := fr3 o
   rw [fa, fb, fc]
   exact ⟨by decide, by decide, by decide⟩
  ·obtain ⟨fa, fb, fc⟩ := fr4 o
   rw [fa, fb, fc]
   have := zbf h
   exact ⟨by omega, by decide, by decide⟩
  ·obtain ⟨fa, fb, fc⟩ := fr5 o
   rw [fa, fb, fc]
   have := zbf h
   exact ⟨by omega, by decide, by decide⟩
  ·obtain ⟨fa, fb, fc⟩ := fr6 o
   rw [fa, fb, fc]
   have := zbf h
   exact ⟨by omega, by decide, by decide⟩
  ·obtain ⟨fa, fb, fc⟩ := fr17 o
   rw [fa, fb, fc]
   exact ⟨by decide, by decide, by decide⟩
 ·rcases o with o | o
  ·obtain ⟨fa, fb, fc⟩ := fr7 o
   rw [fa, fb, fc]
   exact ⟨by decide, by decide, by decide⟩
  ·obtain ⟨fa, fb, fc⟩ := fr8 o
   rw [fa, fb, fc]
   exact ⟨by decide, by decide, by decide⟩
 ·rcases o with o | o | o | o | o | o | o | o | o | o | o | o | o | o
  ·obtain ⟨fa, fb, fc⟩ := fr9 o
   rw [fa, fb, fc]
   exact ⟨by decide, by decide, by decide⟩
  ·obtain ⟨fa, fb, fc⟩ := fr10 o
   rw [fa, fb, fc]
   exact ⟨by decide, by decide, by decide⟩
  ·obtain ⟨fa, fb, fc⟩ := fr11 o
   rw [fa, fb, fc]
   exact ⟨by decide, by decide, by decide⟩
  ·obtain ⟨fa, fb, fc⟩ := fr12 o
   rw [fa, fb, fc]
   exact ⟨by decide, by decide, by decide⟩
  ·obtain ⟨fa, fb, fc⟩ := fr13 o
   rw [fa, fb, fc]
   exact ⟨by decide, by decide, by decide⟩
  ·obtain ⟨fa, fb, fc⟩ := fr14 o
   rw [fa, fb, fc]
   have := zbf h
   refine ⟨by decide, by decide, ?_⟩
   rw [ByteArray.size_append]
   show 1 + _ <= _
   omega
  ·obtain ⟨fa, fb, fc⟩ := fr15 o
   rw [fa, fb, fc]
   have := zbf h
   refine ⟨by decide, by decide, ?_⟩
   rw [ByteArray.size_append]
   show 2 + _ <= _
   omega
  ·obtain ⟨fa, fb, fc⟩ := fr16 o
   rw [fa, fb, fc]
   have := zbf h
   refine ⟨by decide, by decide, ?_⟩
   rw [ByteArray.size_append]
   show 2 + _ <= _
   omega
  ·obtain ⟨fa, fb, fc⟩ := fr18 o
   rw [fa, fb, fc]
   exact ⟨by decide, by decide, by decide⟩
  ·obtain ⟨fa, fb, fc⟩ := fr19 o
   rw [fa, fb, fc]
   have h1 := zlS n.tx
   have h2 : n.tx.size <= 32 := by
    rcases tx19 h o with q | q
    ·rw [q]; decide
    ·exact (zbs q).2
   refine ⟨?_, by decide, by decide⟩
   rw [ByteArray.size_append]
   show _ + 1 <= _
   omega
  ·obtain ⟨fa, fb, fc⟩ := fr20 o
   rw [fa, fb, fc]
   exact ⟨by decide, by decide, by decide⟩
  ·obtain ⟨fa, fb, fc⟩ := fr21 o
   rw [fa, fb, fc]
   exact ⟨by decide, by decide, by decide⟩
  ·obtain ⟨fa, fb, fc⟩ := fr22 o
   rw [fa, fb, fc]
   have := zbf h
   refine ⟨by decide, by decide, ?_⟩
   rw [ByteArray.size_append]
   show 4 + _ <= _
   omega
  ·obtain ⟨fa, fb, fc⟩ := fr23 o
   rw [fa, fb, fc]
   have := zbf h
   refine ⟨by decide, by decide, ?_⟩
   rw [ByteArray.size_append]
   show 4 + _ <= _
   omega
theorem zf1 (d : Nat) (e : Ent) : (itT (zat d e)).length <= (itT e.2).length + 2 := by
 unfold zat
 split
 ·rw [zaO, zaO, List.length_append, List.length_append]
  show 1 + (_ + 1) <= _
  omega
 ·omega
def totI (st : List Ent) : Nat := (st.map fun e => (itT e.2).length).sum
theorem zck (e : Ent) (st : List Ent) : totI (e :: st) = (itT e.2).length + totI st := by unfold totI; rw [List.map_cons, List.sum_cons]
theorem zoy {L : List Nd} (he : ∀ j, j < L.length -> T.er L j = 0) : ∀ k, k <= L.length -> totI (shK L k) <= 10000 * k := by
 intro k
 induction k with
 | zero => intro _; exact Nat.zero_le _
 | succ k ih =>
  intro hk
  have hi := ih (by omega)
  have hn : L[k]? = some L[k] := List.getElem?_eq_getElem (by omega)
  have hok := T.zeM hn (he k (by omega))
  have hlen := zhM (L := L) k (by omega)
  have har := hok.ar
  have h2 := T.zb5 L[k].op
  obtain ⟨f1, f2, f3⟩ := fr_len hok.al
  rw [zct hn]
  unfold zeX
  rw [zck]
  show (itT (zaj L[k] _ _)).length + _ <= _
  rw [zlL hok.al, List.length_append, List.length_append, dlen, dlen]
  cases hs : shK L k with
  | nil =>
   rw [hs] at hlen hi
   have a0 : T.arN L[k].op = 0 := by simp at hlen; omega
   rw [if_pos a0, a0]
   simp only [List.length_nil, List.drop_zero]
   omega
  | cons x st =>
   rw [hs, zck] at hi
   by_cases a0 : T.arN L[k].op = 0
   ·rw [if_pos a0, a0]
    simp only [List.length_nil, List.drop_zero]
    rw [zck]
    omega
   rw [if_neg a0]
   by_cases a1 : T.arN L[k].op = 1
   ·rw [if_pos a1, if_neg (by omega), a1]
    have := zf1 (asK L[k].op 0) x
    show (frA L[k]).size + ((itT (zat (asK L[k].op 0) x)).length + _) + totI st <= _
    omega
   ·rw [if_neg a1, show T.arN L[k].op = 2 from by omega]
    cases st with
    | nil => rw [hs] at hlen; simp at hlen; omega
    | cons y st =>
     rw [zck] at hi
     have q1 := zf1 (asK L[k].op 0) y
     have q2 := zf1 (asK L[k].op 1) x
     show (frA L[k]).size + ((itT (zat (asK L[k].op 0) y) ++ ((frB L[k]).data.toList ++ itT (zat (asK L[k].op 1) x))).length + _) + totI st <= _
     rw [List.length_append, List.length_append, dlen]
     omega
theorem zoz {L : List Nd} (he : ∀ j, j < L.length -> T.er L j = 0) (hL : L.length <= 2048) (k : Nat) (hk : k < L.length) : (itT (enX L k).2).length <= 20480000 := by
 have h := zoy he (k + 1) (by omega)
 unfold enX
 cases hs : shK L (k + 1) with
 | nil => show (itT []).length <= _; decide
 | cons x st =>
  rw [hs, zck] at h
  show (itT x.2).length <= _
  omega
theorem zgM {L : List Nd} (h : T.Rt L) : 0 < L.length := by
 rcases Nat.eq_zero_or_pos L.length with q | q
 ·have := h.one
  rw [List.eq_nil_of_length_eq_zero q] at this
  simp [T.run] at this
 ·exact q
theorem zcw (L : List Nd) (b gp op cp : Nat) (hL : L.length <= 2048) (he : ∀ j, j < L.length -> T.er L j = 0) (w : World) (hp : T.NdL w gp op L) (lp : gp < b) (lb : b < w.heap.size) :
  Calls Tryz.prog 26 #[.slice (some ⟨gp, op, none⟩) L.length cp, zf0 b] w fun e w' => (∃ tb, e = .returned (.pointer (some ⟨tb, 0, none⟩)) /\ Tl w' b tb L gp op cp) /\ Below w.heap.size w w' := by
 have HP : Hid (∀ _ : Unit, Calls Tryz.prog 47 #[.slice (some ⟨gp, op, none⟩) L.length cp] w fun e w' => (∃ g, e = .returned (.slice (some ⟨g, 0, none⟩) L.length L.length) /\ PtR w' w.heap.size g L) /\ Below w.heap.size w w') := fun _ => zlO L gp op cp hL he w hp (by omega)
 have HN : Hid (T.NdL w gp op L) := hp
 clear hp he
 go_enter Tryz.func26, Tryz.ntmps26
 go_wp2_with fail
 refine (HP.out ()).mono ?_
 rintro e w1 ⟨⟨g, rfl, hg⟩, b1⟩
 have HT := (show Hid (Tl (w1.alloc (.cells #[.slice (some ⟨gp, op, none⟩) L.length cp, .slice (some ⟨g, 0, none⟩) L.length L.length, zf0 b] 93)) b w1.heap.size L gp op cp /\ Below w.heap.size w (w1.alloc (.cells #[.slice (some ⟨gp, op, none⟩) L.length cp, .slice (some ⟨g, 0, none⟩) L.length L.length, zf0 b] 93))) from by
  have h2 := hg.later (zaa w1 (.cells #[.slice (some ⟨gp, op, none⟩) L.length cp, .slice (some ⟨g, 0, none⟩) L.length L.length, zf0 b] 93))
  have hs := b1.size
  refine ⟨⟨⟨g, ⟨⟨_, heap_alloc_new w1 _⟩, by omega, by decide⟩, ?_⟩, ?_, lp⟩, b1.alloc b1.size _⟩
  ·obtain ⟨q1, cur, q2, q3⟩ := h2
   refine ⟨cur, ⟨⟨_, q2⟩, by omega, by decide⟩, fun j hj => ?_⟩
   obtain ⟨u, r1, r2⟩ := q3 j hj
   exact ⟨u, r1, KdF.of r2 lb⟩
  ·exact HN.out.same ((b1.alloc b1.size _).block gp (by omega)))
 clear hg b1 HP HN
 go_wp2_with fail
 go_ret
 exact ⟨⟨_, rfl, HT.out.1⟩, HT.out.2⟩
theorem zbU {L : List Nd} {b tb gp op cp : Nat} (hr : T.Rt L) (hw : ∀ n ∈ L, NdW n) (W : World) (bs : List UInt8) (hT : Tl W b tb L gp op cp) (hB : Lib.IsBuilder 59 5 b b (Lib.byteCells bs) W) (hl : bs.length <= 60000000) :
  Calls Tryz.prog 28 #[.pointer (some ⟨tb, 0, none⟩)] W fun e W' => e = .returned (.tuple #[]) /\ Pg b W W' (bs ++ itT (shI L)) := by
 have hL : L.length <= 2048 := by have := hr.len; omega
 have h0 := zgM hr
 have hen := zoz hr.each hL (L.length - 1) (by omega)
 obtain ⟨k, hk⟩ : ∃ k, k + 1 = L.length := ⟨L.length - 1, by omega⟩
 have ek : L.length - 1 = k := by omega
 rw [ek] at hen
 have e0 : zat 0 (enX L k) = (enX L k).2 := by unfold zat; rw [if_neg (by omega)]
 have HC : Hid (∀ _ : Unit, Calls Tryz.prog 49 #[.pointer (some ⟨tb, 0, none⟩), .int .i64 k, .int .i64 0] W fun e W' => e = .returned (.tuple #[]) /\ Pg b W W' (bs ++ itT (shI L))) := fun _ => by
  have h := znM (b := b) (tb := tb) (gp := gp) (op := op) (cp := cp) hr.each hw hL k 0 (by omega) (by omega) W bs hT hB (by rw [e0]; omega)
  rw [e0] at h
  rw [zlK h0, ek]
  exact h
 obtain ⟨g, ht, _⟩ := hT.t
 have a0 : W.cell? ⟨tb, 0, none⟩ = some (.slice (some ⟨gp, op, none⟩) L.length cp) := ht.cell 0
 have es : (L.length : Int) - 1 = (k : Int) := by omega
 clear hT hB ht hen e0 h0 hw hr ek
 go_enter Tryz.func28, Tryz.ntmps28
 go_wp2_with fail
 refine (HC.out ()).mono ?_
 rintro e w1 ⟨rfl, p1⟩
 have HP := hO p1
 clear p1 HC a0
 go_wp2_with fail
 go_end0
 exact ⟨rfl, HP.out⟩
def lnR (l : List UInt8) : ByteArray × Int := if 65536 < l.length then (⟨#[]⟩, 2) else (txO l, 0)
theorem zgN (b : Nat) (l : List UInt8) (w : World) (h : Lib.IsBuilder 59 5 b b (Lib.byteCells l) w) (h0 : l ≠ []) (hl : l.length <= 100000000) : Calls Tryz.prog 29 #[.pointer (some ⟨b, 0, none⟩)] w fun e w' => e = .returned (.tuple #[.string (lnR l).1, .int .i64 (lnR l).2]) /\ Below b w w' := by
 have HL : Hid (∀ _ : Unit, Calls Tryz.prog 50 #[.pointer (some ⟨b, 0, none⟩)] w fun e w' => e = .returned (.int .i64 l.length) /\ w' = w) := fun _ => by
  have := pg_len b _ w h
  rw [Lib.byteCells_length] at this
  exact this
 by_cases q : 65536 < l.length
 ·have HE : Hid (lnR l = (⟨#[]⟩, 2)) := by show lnR l = _; unfold lnR; rw [if_pos q]
  have z : (65536 : Int) < (l.length : Int) := by omega
  clear h h0 q
  generalize hm : l.length = m at *
  go_enter Tryz.func29, Tryz.ntmps29
  go_wp2_with fail
  refine (HL.out ()).mono ?_
  rintro e w1 ⟨rfl, rfl⟩
  clear HL
  go_wp2_with fail
  go_ret2
  exact ⟨by rw [HE.out]; rfl, Below.refl _ _⟩
 ·have HE : Hid (lnR l = (txO l, 0)) := by show lnR l = _; unfold lnR; rw [if_neg q]
  have z : ¬ (65536 : Int) < (l.length : Int) := by omega
  have HT : Hid (∀ _ : Unit, Calls Tryz.prog 51 #[.pointer (some ⟨b, 0, none⟩)] w fun e w' => e = .returned (.string (txO l)) /\ Below b w w') := fun _ => zqq b l w h h0
  clear h h0 q
  generalize hm : l.length = m at *
  go_enter Tryz.func29, Tryz.ntmps29
  go_wp2_with fail
  refine (HL.out ()).mono ?_
  rintro e w1 ⟨rfl, rfl⟩
  clear HL
  go_wp2_with fail
  refine (HT.out ()).mono ?_
  rintro e w2 ⟨rfl, b2⟩
  have HB := hO b2
  clear HT b2
  go_wp2_with fail
  go_ret2
  exact ⟨by rw [HE.out]; rfl, HB.out⟩
def shR (L : List Nd) : ByteArray × Int := if (T.ck L).2 = 0 then lnR (itT (shI L)) else (⟨#[]⟩, (T.ck L).2)
theorem sh_ne {L : List Nd} (hr : T.Rt L) (hw : ∀ n ∈ L, NdW n) : itT (shI L) ≠ [] := by
 obtain ⟨t, ht, _⟩ := (ziF hr hw).hd
 have hrt := (ziF hr hw).rt
 cases hs : shI L with
 | nil => rw [hs] at ht; cases ht
 | cons x r =>
  rw [hs] at ht hrt
  have ex : x = some t := by simpa using ht
  subst ex
  have hg := hrt t (mem_tks.2 List.mem_cons_self)
  have h1 := (zgG hg.r hg.b (s := tkX t) (b := 0) (fun k _ => rfl) (by rw [zau (by omega)]; decide)).1
  rw [zan, znH]
  intro e
  have h2 := dlen (tkX t)
  rw [(List.append_eq_nil_iff.1 e).1] at h2
  simp at h2
  omega
theorem zb8 (L : List Nd) (Ap : Option Addr) (cp : Nat) (hL : L.length <= 140737488355328) (hT : ∀ n ∈ L, n.tx.size <= 140737488355328) (hw : ∀ n ∈ L, NdW n) (w : World) (hp : T.RdN w Ap L) :
  Calls Tryz.prog 9 #[.slice Ap L.length cp] w fun e w' => e = .returned (.tuple #[.string (shR L).1, .int .i64 (shR L).2]) /\ Below w.heap.size w w' := by
 have HC : Hid (∀ _ : Unit, Calls Tryz.prog 25 #[.slice Ap L.length cp] w fun e w' => e = .returned (.tuple #[.int .i64 (T.ck L).1, .int .i64 (T.ck L).2]) /\ Below w.heap.size w w') := fun _ => T.za5 L Ap cp hL hT w hp
 by_cases hc : (T.ck L).2 = 0
 ·have hr := T.zjT hc
  have t0 : ((T.ck L).2 != 0) = false := by rw [hc]; rfl
  obtain ⟨gp, op, rfl, lp, hn⟩ := hp (by rintro rfl; have := zgM hr; simp at this)
  have hmf : ∀ (fn : Fn) (first cap : Array Value) (w : World), (Instr.makeFunc fn first cap).run Tryz.prog w = .ok (.func fn first cap) w := fun _ _ _ _ => rfl
  have HE : Hid (shR L = lnR (itT (shI L))) := by show shR L = _; unfold shR; rw [if_pos hc]
  have HR : Hid (T.Rt L) := hr
  have HW : Hid (∀ n ∈ L, NdW n) := hw
  have HN : Hid (T.NdL w gp op L) := hn
  have HNe : Hid (itT (shI L) ≠ []) := sh_ne hr hw
  have HLe := (show Hid ((itT (shI L)).length <= 20480000) from by
   have := zoz hr.each (by have := hr.len; omega) (L.length - 1) (by have := zgM hr; omega)
   rw [<- zlK (zgM hr)] at this
   exact this)
  clear hr hw hp hc hT hn
  generalize (T.ck L).2 = cc at *
  generalize (T.ck L).1 = c1 at *
  go_enter Tryz.func9, Tryz.ntmps9
  go_wp2_with fail
  refine (HC.out ()).mono ?_
  rintro e w1 ⟨rfl, b1⟩
  have HB1 : Hid (Below w.heap.size w w1) := b1
  have hs1 := b1.size
  have HF : Hid (Lib.IsBuilder 59 5 w1.heap.size w1.heap.size (Lib.byteCells []) (w1.alloc (.cells #[.pointer none, .slice none 0 0] 59))) := Lib.fresh_isBuilder 59 5 w1
  have HNt : Hid (∀ _ : Unit, Calls Tryz.prog 26 #[.slice (some ⟨gp, op, none⟩) L.length cp, zf0 w1.heap.size] (w1.alloc (.cells #[.pointer none, .slice none 0 0] 59)) fun e w' => (∃ tb, e = .returned (.pointer (some ⟨tb, 0, none⟩)) /\ Tl w' w1.heap.size tb L gp op cp) /\ Below (w1.alloc (.cells #[.pointer none, .slice none 0 0] 59)).heap.size (w1.alloc (.cells #[.pointer none, .slice none 0 0] 59)) w') := fun _ =>
   zcw L w1.heap.size gp op cp (by have := HR.out.len; omega) HR.out.each _ (HN.out.same ((b1.alloc b1.size _).block gp lp)) (by omega) (by rw [World.size_alloc]; omega)
  clear b1 HC HN
  go_wp2_with fail
  refine (HNt.out ()).mono ?_
  rintro e w2 ⟨⟨tb, rfl, ht⟩, b2⟩
  have HP0 : Hid (Pg w1.heap.size (w1.alloc (.cells #[.pointer none, .slice none 0 0] 59)) w2 []) := (Pg.start HF.out).later b2
  have HPa : Hid (∀ _ : Unit, Calls Tryz.prog 28 #[.pointer (some ⟨tb, 0, none⟩)] w2 fun e W' => e = .returned (.tuple #[]) /\ Pg w1.heap.size w2 W' ([] ++ itT (shI L))) := fun _ => zbU HR.out HW.out w2 [] ht HP0.out.i (by decide)
  clear ht b2 HNt HF
  go_wp2_with fail
  refine (HPa.out ()).mono ?_
  rintro e w3 ⟨rfl, p3⟩
  rw [List.nil_append] at p3
  have HP3 : Hid (Pg w1.heap.size (w1.alloc (.cells #[.pointer none, .slice none 0 0] 59)) w3 (itT (shI L))) := HP0.out.trans p3
  have HWh : Hid (∀ _ : Unit, Calls Tryz.prog 29 #[.pointer (some ⟨w1.heap.size, 0, none⟩)] w3 fun e w' => e = .returned (.tuple #[.string (lnR (itT (shI L))).1, .int .i64 (lnR (itT (shI L))).2]) /\ Below w1.heap.size w3 w') := fun _ => zgN w1.heap.size _ w3 p3.i HNe.out (by have := HLe.out; omega)
  clear p3 HPa HP0 HR HW
  go_wp2_with fail
  refine (HWh.out ()).mono ?_
  rintro e w4 ⟨rfl, b4⟩
  have HB4 : Hid (Below w.heap.size w w4) := (((HB1.out.alloc hs1 (.cells #[.pointer none, .slice none 0 0] 59)).trans (HP3.out.bl.mono hs1)).trans (b4.mono hs1))
  clear b4 HWh HP3
  go_wp2_with fail
  go_ret2
  exact ⟨by rw [HE.out]; rfl, HB4.out⟩
 ·have t0 : ((T.ck L).2 != 0) = true := by rw [bne, bF hc]; rfl
  have HE : Hid (shR L = (⟨#[]⟩, (T.ck L).2)) := by show shR L = _; unfold shR; rw [if_neg hc]
  clear hp hT hw hc
  generalize (T.ck L).2 = cc at *
  generalize (T.ck L).1 = c1 at *
  go_enter Tryz.func9, Tryz.ntmps9
  go_wp2_with fail
  refine (HC.out ()).mono ?_
  rintro e w1 ⟨rfl, b1⟩
  have HB1 := hO b1
  clear b1 HC
  go_wp2_with fail
  go_ret2
  exact ⟨by rw [HE.out]; rfl, HB1.out⟩
structure PX (W : World) (k : Nat) (a b c : Value) : Prop where
 heap : W.heap[k]? = some (.cells #[a, b, c] 79 (0, 0))
theorem PX.lt {W : World} {k : Nat} {a b c : Value} (h : PX W k a b c) : k < W.heap.size := (Array.getElem?_eq_some_iff.1 h.heap).1
theorem PX.same {W W' : World} {k : Nat} {a b c : Value} (h : PX W k a b c) (hb : W'.heap[k]? = W.heap[k]?) : PX W' k a b c := ⟨hb.trans h.heap⟩
theorem PX.cl {W : World} {k : Nat} {a b c : Value} (h : PX W k a b c) : W.cell? ⟨k, 0, none⟩ = some a /\ W.cell? ⟨k, 1, none⟩ = some b /\ W.cell? ⟨k, 2, none⟩ = some c := by
 have key : ∀ (j : Nat) u, (#[a, b, c] : Array Value)[j]? = some u -> W.cell? ⟨k, j, none⟩ = some u := fun j u hu => by
  rw [cell_of_row W k j _ 79 (0, 0) h.heap]; exact hu
 exact ⟨key 0 _ rfl, key 1 _ rfl, key 2 _ rfl⟩
theorem PX.fz {W : World} {k : Nat} {a b c : Value} (h : PX W k a b c) (j : Nat) : W.frozen? ⟨k, j, none⟩ = false := frozen_of_row W k j _ 79 h.heap
abbrev st3 (W : World) (k : Nat) (a b c : Value) : World := ((W.setCell ⟨k, 0, none⟩ a).setCell ⟨k, 1, none⟩ b).setCell ⟨k, 2, none⟩ c
theorem zoA {W : World} {k : Nat} {a0 b0 c0 : Value} (h : PX W k a0 b0 c0) (a b c : Value) : PX (st3 W k a b c) k a b c := by
 have h0 := heap_setCell_same _ k 0 _ 79 a h.heap
 have h1 := heap_setCell_same _ k 1 _ 79 b h0
 have h2 := heap_setCell_same _ k 2 _ 79 c h1
 refine ⟨?_⟩
 rw [h2]
 simp
theorem zdA {W : World} {k j : Nat} (a b c : Value) (h : j ≠ k) : (st3 W k a b c).heap[j]? = W.heap[j]? :=
 (Below.heap_setCell _ _ _ _ h).trans ((Below.heap_setCell _ _ _ _ h).trans (Below.heap_setCell _ _ _ _ h))
theorem zlV {B : Nat} {w W : World} {k : Nat} (h : Below B w W) (hk : B <= k) (a b c : Value) : Below B w (st3 W k a b c) := ((h.setCell (p := ⟨k, 0, none⟩) hk _).setCell (p := ⟨k, 1, none⟩) hk _).setCell (p := ⟨k, 2, none⟩) hk _
theorem PX.ne {W : World} {k B e s n : Nat} {u a b c : Value} {xs : List Value} (h : PX W k a b c) (ho : W.ownsRow B e s u n xs) (he : e ≠ 79) {j : Nat} (hj : u.ownBlock = some j) : j ≠ k := fun q => by
 subst q
 obtain ⟨cs, hc⟩ := ze8 ho hj
 rw [h.heap] at hc
 injection hc with h4
 injection h4 with _ h5
 exact he h5.symm
theorem PX.neb {W : World} {k b : Nat} {tv v x y u : Value} {i d : Nat} (h : PX W k x y u) (hx : RX W b tv i d v) : b ≠ k := fun q => by
 subst q
 have := hx.heap
 rw [h.heap] at this
 injection this with h4
 injection h4 with _ h5
 cases h5
theorem RS.st3 {E : PE} {z : Nat} {w0 W : World} {b : Nat} {tv : Value} {i d : Nat} {v : Value} {L : List Nd} {k : Nat} {a0 b0 c0 : Value} (h : RS E z w0 W b tv i d v L) (hp : PX W k a0 b0 c0) (hk : w0.heap.size <= k) (x y u : Value) : RS E z w0 (st3 W k x y u) b tv i d v L :=
 ⟨zlV h.bl hk x y u, h.lo, h.x.same (zdA x y u (hp.neb h.x)), zaD h.t fun j hj => zdA x y u (hp.ne h.t (by decide) hj), zaD h.o fun j hj => zdA x y u (hp.ne h.o (by decide) hj), h.hi, h.hd⟩
theorem Fr.st3 {W W' : World} {b k : Nat} {v v' : Value} (h : Fr W W' b v v') (hk : W.heap.size <= k) (x y u : Value) : Fr W (st3 W' k x y u) b v v' :=
 ⟨Nat.le_trans h.size (by simp [World.setCell]), fun j hj hb hv => (zdA x y u (by omega)).trans (h.block j hj hb hv), h.own⟩
theorem zoB {fn : Func} {R : Ending -> World -> Prop} {act : Act} {W : World} {k : Nat} {a b c : Value} (hF : fn.results = #[.cell 2 79]) (hd : act.defers = []) (h2 : act.tmps.getD 2 undef = .pointer (some ⟨k, 0, none⟩)) (hT : PX W k a b c) (hR : R (.returned (.agg #[a, b, c])) W) : bodyPost Tryz.prog fn R .ret act W := by
 obtain ⟨c0, c1, c2⟩ := hT.cl
 refine bodyPost_ret (v := .agg #[a, b, c]) ?_ hd hR
 simp only [Array.getD_eq_getD_getElem?] at h2
 simp [results, hF, go_sem, h2, c0, c1, c2]
theorem zq4 {E : PE} (hE : OkE E) {z : Nat} {w0 : World} (hv : R.VB w0) {b : Nat} {tv : Value} {W : World} {v : Value} {L : List Nd} (h : RS E z w0 W b tv 0 0 v L) (q : Nat × Int) (hq : exN E 0 = .inr q) : Calls Tryz.prog 41 #[.pointer (some ⟨b, 0, none⟩)] W fun e W' => e = pnc (plA E z q.1) q.2 /\ Below w0.heap.size w0 W' := by
 obtain ⟨t, ht, hk, hpl, _⟩ := zam E z h.hi
 have HH : Hid (∀ W, RS E z w0 W b tv 0 0 v L -> Calls Tryz.prog 62 #[.pointer (some ⟨b, 0, none⟩)] W fun e W' => e = .returned (.agg #[.int .i64 t.kd, .int .i64 t.nn, .int .i64 (plA E z 0), .int .i64 t.en, .string t.tx, .int .u64 t.s0, .int .u64 t.s1, .int .u64 t.s2, .int .u64 t.s3]) /\ Below W.heap.size W W') := fun W h => by
  have := zaq h t ht
  rw [hpl] at this
  exact this
 have fl2 := fld2
 have fl0 := zjz
 have HP : Hid (PX (W.alloc (.cells #[.int .i64 0, .string ⟨#[]⟩, .slice none 0 0] 79)) W.heap.size (.int .i64 0) (.string ⟨#[]⟩) (.slice none 0 0)) := ⟨heap_alloc_new W _⟩
 have H : Hid (RS E z w0 (W.alloc (.cells #[.int .i64 0, .string ⟨#[]⟩, .slice none 0 0] 79)) b tv 0 0 v L) := h.later (zaa _ _)
 have HF : Hid (Fr W (W.alloc (.cells #[.int .i64 0, .string ⟨#[]⟩, .slice none 0 0] 79)) b (.slice none 0 0) (.slice none 0 0)) := Fr.below b _ (zaa _ _)
 have hnb := h.x.lt
 have hw0 := h.bl.size
 have HBo : Hid (∀ W, RS E z w0 W b tv 0 0 v L -> Calls Tryz.prog 63 #[.pointer (some ⟨b, 0, none⟩)] W fun e W' => e = pnc (plA E z q.1) q.2 /\ Below w0.heap.size w0 W') := fun W h => zlk hE hv h q hq
 clear h ht hk hpl hE hv hq
 generalize plA E z 0 = p0 at *
 go_enter Tryz.func41, Tryz.ntmps41
 go_wp2_with fail
 generalize W.alloc (.cells #[.int .i64 0, .string ⟨#[]⟩, .slice none 0 0] 79) = w1 at *
 refine (HH.out _ H.out).mono ?_
 rintro e w2 ⟨rfl, hb⟩
 have H2 := hO (H.out.later hb)
 have HF2 : Hid (Fr W w2 b (.slice none 0 0) (.slice none 0 0)) := HF.out.trans (Fr.below b _ hb)
 have HP2 := hO (HP.out.same (hb.block _ HP.out.lt))
 clear hb HH H HF HP
 go_wp2_with fail
 refine (HBo.out _ H2.out).mono ?_
 rintro e w3 ⟨rfl, hb⟩
 exact zac rfl ⟨rfl, hb⟩
theorem zq5 {E : PE} (hE : OkE E) {z : Nat} {w0 : World} (hv : R.VB w0) {b : Nat} {tv : Value} {W : World} {v : Value} {L : List Nd} (h : RS E z w0 W b tv 0 0 v L) (a : Nat) (ns : List Nd) (hq : exN E 0 = .inl (a, ns)) (hz : ¬ kdA E a = 0) : Calls Tryz.prog 41 #[.pointer (some ⟨b, 0, none⟩)] W fun e W' => e = pnc (plA E z a) 60 /\ Below w0.heap.size w0 W' := by
 obtain ⟨t, ht, hk, hpl, _⟩ := zam E z h.hi
 have HH : Hid (∀ W, RS E z w0 W b tv 0 0 v L -> Calls Tryz.prog 62 #[.pointer (some ⟨b, 0, none⟩)] W fun e W' => e = .returned (.agg #[.int .i64 t.kd, .int .i64 t.nn, .int .i64 (plA E z 0), .int .i64 t.en, .string t.tx, .int .u64 t.s0, .int .u64 t.s1, .int .u64 t.s2, .int .u64 t.s3]) /\ Below W.heap.size W W') := fun W h => by
  have := zaq h t ht
  rw [hpl] at this
  exact this
 have fl2 := fld2
 have fl0 := zjz
 have HP : Hid (PX (W.alloc (.cells #[.int .i64 0, .string ⟨#[]⟩, .slice none 0 0] 79)) W.heap.size (.int .i64 0) (.string ⟨#[]⟩) (.slice none 0 0)) := ⟨heap_alloc_new W _⟩
 have H : Hid (RS E z w0 (W.alloc (.cells #[.int .i64 0, .string ⟨#[]⟩, .slice none 0 0] 79)) b tv 0 0 v L) := h.later (zaa _ _)
 have HF : Hid (Fr W (W.alloc (.cells #[.int .i64 0, .string ⟨#[]⟩, .slice none 0 0] 79)) b (.slice none 0 0) (.slice none 0 0)) := Fr.below b _ (zaa _ _)
 have hnb := h.x.lt
 have hw0 := h.bl.size
 have HBo : Hid (∀ W, RS E z w0 W b tv 0 0 v L -> Calls Tryz.prog 63 #[.pointer (some ⟨b, 0, none⟩)] W fun e W' => ∃ v', e = .returned v' /\ RS E z w0 W' b tv a 0 v' ns /\ Fr W W' b (.slice none 0 0) v') := fun W h => zhw hE hv h a ns hq
 have hal : a <= E.l.length := (ze5 (Nat.zero_le _) hq).2
 obtain ⟨t2, ht2, hk2, hpl2, _⟩ := zam E z hal
 have HH2 : Hid (∀ W v, RS E z w0 W b tv a 0 v ns -> Calls Tryz.prog 62 #[.pointer (some ⟨b, 0, none⟩)] W fun e W' => e = .returned (.agg #[.int .i64 t2.kd, .int .i64 t2.nn, .int .i64 t2.fr, .int .i64 t2.en, .string t2.tx, .int .u64 t2.s0, .int .u64 t2.s1, .int .u64 t2.s2, .int .u64 t2.s3]) /\ Below W.heap.size W W') := fun W v h => zaq h t2 ht2
 have HRf : Hid (∀ W v, RS E z w0 W b tv a 0 v ns -> Calls Tryz.prog 64 #[.pointer (some ⟨b, 0, none⟩), .int .i64 60] W fun e W' => e = pnc (plA E z a) 60 /\ Below W.heap.size W W') := fun W v h => zbx h 60
 have t1 : (t2.kd != 0) = true := by rw [hk2]; simpa using hz
 clear h ht hk hpl hE hv hq ht2 hk2 hpl2 hz
 generalize plA E z 0 = p0 at *
 go_enter Tryz.func41, Tryz.ntmps41
 go_wp2_with fail
 generalize W.alloc (.cells #[.int .i64 0, .string ⟨#[]⟩, .slice none 0 0] 79) = w1 at *
 refine (HH.out _ H.out).mono ?_
 rintro e w2 ⟨rfl, hb⟩
 have H2 := hO (H.out.later hb)
 have HF2 : Hid (Fr W w2 b (.slice none 0 0) (.slice none 0 0)) := HF.out.trans (Fr.below b _ hb)
 have HP2 := hO (HP.out.same (hb.block _ HP.out.lt))
 clear hb HH H HF HP
 go_wp2_with fail
 refine (HBo.out _ H2.out).mono ?_
 rintro e w3 ⟨v3, rfl, h3, hf3⟩
 have H3 := hO h3
 have HF3 : Hid (Fr W w3 b (.slice none 0 0) v3) := HF2.out.trans hf3
 have HP3 := hO (HP2.out.same (hf3.block _ HP2.out.lt (by omega) (by intro q; cases q)))
 clear h3 hf3 H2 HF2 HP2 HBo
 go_wp2_with fail
 refine (HH2.out _ _ H3.out).mono ?_
 rintro e w4 ⟨rfl, hb⟩
 have H4 := hO (H3.out.later hb)
 have HF4 : Hid (Fr W w4 b (.slice none 0 0) v3) := HF3.out.trans (Fr.below b _ hb)
 have HP4 := hO (HP3.out.same (hb.block _ HP3.out.lt))
 clear hb H3 HF3 HP3 HH2
 obtain ⟨c0, c1, c2⟩ := HP4.out.cl
 have f0 := HP4.out.fz 0
 have f1' := HP4.out.fz 1
 have f2' := HP4.out.fz 2
 go_wp2_with fail
 refine (HRf.out _ _ H4.out).mono ?_
 rintro e w5 ⟨rfl, hb⟩
 exact zac rfl ⟨rfl, H4.out.bl.trans (hb.mono H4.out.bl.size)⟩
theorem znN {E : PE} (hE : OkE E) {z : Nat} {w0 : World} (hv : R.VB w0) {b : Nat} {tv : Value} {W : World} {v : Value} {L : List Nd} (h : RS E z w0 W b tv 0 0 v L) (a : Nat) (ns : List Nd) (hq : exN E 0 = .inl (a, ns)) (hz : kdA E a = 0) : Calls Tryz.prog 41 #[.pointer (some ⟨b, 0, none⟩)] W fun e W' => ∃ v', e = .returned (.agg #[.int .i64 (plA E z 0), .string ⟨#[]⟩, v']) /\ RS E z w0 W' b tv a 0 v' ns /\ Fr W W' b (.slice none 0 0) v' := by
 obtain ⟨t, ht, hk, hpl, _⟩ := zam E z h.hi
 have HH : Hid (∀ W, RS E z w0 W b tv 0 0 v L -> Calls Tryz.prog 62 #[.pointer (some ⟨b, 0, none⟩)] W fun e W' => e = .returned (.agg #[.int .i64 t.kd, .int .i64 t.nn, .int .i64 (plA E z 0), .int .i64 t.en, .string t.tx, .int .u64 t.s0, .int .u64 t.s1, .int .u64 t.s2, .int .u64 t.s3]) /\ Below W.heap.size W W') := fun W h => by
  have := zaq h t ht
  rw [hpl] at this
  exact this
 have fl2 := fld2
 have fl0 := zjz
 have HP : Hid (PX (W.alloc (.cells #[.int .i64 0, .string ⟨#[]⟩, .slice none 0 0] 79)) W.heap.size (.int .i64 0) (.string ⟨#[]⟩) (.slice none 0 0)) := ⟨heap_alloc_new W _⟩
 have H : Hid (RS E z w0 (W.alloc (.cells #[.int .i64 0, .string ⟨#[]⟩, .slice none 0 0] 79)) b tv 0 0 v L) := h.later (zaa _ _)
 have HF : Hid (Fr W (W.alloc (.cells #[.int .i64 0, .string ⟨#[]⟩, .slice none 0 0] 79)) b (.slice none 0 0) (.slice none 0 0)) := Fr.below b _ (zaa _ _)
 have hnb := h.x.lt
 have hw0 := h.bl.size
 have HBo : Hid (∀ W, RS E z w0 W b tv 0 0 v L -> Calls Tryz.prog 63 #[.pointer (some ⟨b, 0, none⟩)] W fun e W' => ∃ v', e = .returned v' /\ RS E z w0 W' b tv a 0 v' ns /\ Fr W W' b (.slice none 0 0) v') := fun W h => zhw hE hv h a ns hq
 have hal : a <= E.l.length := (ze5 (Nat.zero_le _) hq).2
 obtain ⟨t2, ht2, hk2, hpl2, _⟩ := zam E z hal
 have HH2 : Hid (∀ W v, RS E z w0 W b tv a 0 v ns -> Calls Tryz.prog 62 #[.pointer (some ⟨b, 0, none⟩)] W fun e W' => e = .returned (.agg #[.int .i64 t2.kd, .int .i64 t2.nn, .int .i64 t2.fr, .int .i64 t2.en, .string t2.tx, .int .u64 t2.s0, .int .u64 t2.s1, .int .u64 t2.s2, .int .u64 t2.s3]) /\ Below W.heap.size W W') := fun W v h => zaq h t2 ht2
 have t1 : (t2.kd != 0) = false := by rw [hk2, hz]; simp
 clear h ht hk hpl hE hv hq ht2 hk2 hpl2 hz
 generalize plA E z 0 = p0 at *
 go_enter Tryz.func41, Tryz.ntmps41
 go_wp2_with fail
 generalize W.alloc (.cells #[.int .i64 0, .string ⟨#[]⟩, .slice none 0 0] 79) = w1 at *
 refine (HH.out _ H.out).mono ?_
 rintro e w2 ⟨rfl, hb⟩
 have H2 := hO (H.out.later hb)
 have HF2 : Hid (Fr W w2 b (.slice none 0 0) (.slice none 0 0)) := HF.out.trans (Fr.below b _ hb)
 have HP2 := hO (HP.out.same (hb.block _ HP.out.lt))
 clear hb HH H HF HP
 go_wp2_with fail
 refine (HBo.out _ H2.out).mono ?_
 rintro e w3 ⟨v3, rfl, h3, hf3⟩
 have H3 := hO h3
 have HF3 : Hid (Fr W w3 b (.slice none 0 0) v3) := HF2.out.trans hf3
 have HP3 := hO (HP2.out.same (hf3.block _ HP2.out.lt (by omega) (by intro q; cases q)))
 clear h3 hf3 H2 HF2 HP2 HBo
 go_wp2_with fail
 refine (HH2.out _ _ H3.out).mono ?_
 rintro e w4 ⟨rfl, hb⟩
 have H4 := hO (H3.out.later hb)
 have HF4 : Hid (Fr W w4 b (.slice none 0 0) v3) := HF3.out.trans (Fr.below b _ hb)
 have HP4 := hO (HP3.out.same (hb.block _ HP3.out.lt))
 clear hb H3 HF3 HP3 HH2
 obtain ⟨c0, c1, c2⟩ := HP4.out.cl
 have f0 := HP4.out.fz 0
 have f1' := HP4.out.fz 1
 have f2' := HP4.out.fz 2
 obtain ⟨A3, n3, rfl⟩ := zb4 H4.out.o
 go_wp2_with fail
 refine zoB rfl rfl rfl (zoA HP4.out (.int .i64 p0) (.string ⟨#[]⟩) (.slice A3 ns.length n3)) ?_
 exact ⟨_, rfl, H4.out.st3 HP4.out hw0 _ _ _, HF4.out.st3 (Nat.le_refl _) _ _ _⟩
end Go.Proofs.YtnpifgcgjgddoaaGreatDoor.N
namespace Go.Proofs.YtnpifgcgjgddoaaGreatDoor.T
open Go.RowKit
theorem zlW {W : World} {B n : Nat} {v : Value} {L : List Nd} (h : W.ownsRow B 51 7 v n (ndc L)) (hn : n = L.length) : ∃ A c, v = .slice A L.length c /\ RdN W A L := by
 subst hn
 have hc := h
 rcases h.2 with ⟨rfl, h0⟩ | ⟨g, cap, cur, rfl, _⟩
 ·exact ⟨none, 0, by rw [h0], fun hl => absurd (List.eq_nil_of_length_eq_zero h0) hl⟩
 ·have hc2 : W.ownsRow B 51 7 (.slice (some ⟨g, 0, none⟩) L.length cap) L.length (ndc L ++ []) := by rw [List.append_nil]; exact hc
  exact ⟨_, cap, rfl, fun _ => ⟨g, 0, rfl, (hc.lt g rfl).2, zg5 hc2⟩⟩
theorem zjt {F : Nat} (hen : ∀ args w, (callFunc F args).run Tryz.prog w = .ok (.enter F args) w) {ops : Array Oper} {o : Oper} {a : Act} {w : World} {K : Act -> World -> Prop} {Q : Exit -> Act -> World -> Prop} {E : Prop} (hgd : o.guard = none) (x : Operand) (T : TypeId) (ho : o.op = .call { callee := .value (.func F), args := #[x], argTypes := #[T] }) (v : Value) (hx : a.eval x = v)
  (hc : Calls Tryz.prog F #[v] w fun e w' => ∃ r, e = .returned r /\ K (a.put o.dst r) w') :
  if Region.wanted o (yielded ops a.tmps) = true then Oper.wp Tryz.prog o a w K Q else E := by
 have hw : Region.wanted o (yielded ops a.tmps) = true := by simp [Region.wanted, hgd]
 rw [if_pos hw]
 have he : (execOp a.eval o).run Tryz.prog w = .ok (.enter F #[v]) w := by
  unfold execOp
  simp [ho, go_sem, invoke, hen]
  rw [<- hx]
  cases x <;> simp [Act.eval]
 unfold Oper.wp
 rw [he, Oper.upon_enter]
 refine hc.mono ?_
 rintro e w' ⟨r, rfl, hk⟩
 exact hk
end Go.Proofs.YtnpifgcgjgddoaaGreatDoor.T
namespace Go.Proofs.YtnpifgcgjgddoaaGreatDoor.N
open Go.RowKit
theorem ziI (args : Array Value) (w : World) : (callFunc 63 args).run Tryz.prog w = .ok (.enter 63 args) w := enters_of Tryz.func63 (by kernel_rfl) rfl args w
theorem zoC {p : Prop} (h : p) : Hid p := h
theorem zju {F : Nat} (hen : ∀ args w, (callFunc F args).run Tryz.prog w = .ok (.enter F args) w) {ops : Array Oper} {o : Oper} {a : Act} {w : World} {K : Act -> World -> Prop} {Q : Exit -> Act -> World -> Prop} {E : Prop} (hgd : o.guard = none) (x : Operand) (T : TypeId) (ho : o.op = .call { callee := .value (.func F), args := #[x], argTypes := #[T] }) (v : Value) (hx : a.eval x = v)
  (hc : Calls Tryz.prog F #[v] w fun e w' => ∃ ch, e = .panicked ch /\ Q (.panic ch) a w') (_ : Hid False -> K (a.put o.dst (.slice none 0 0)) w) :
  if Region.wanted o (yielded ops a.tmps) = true then Oper.wp Tryz.prog o a w K Q else E := by
 have hw : Region.wanted o (yielded ops a.tmps) = true := by simp [Region.wanted, hgd]
 rw [if_pos hw]
 have he : (execOp a.eval o).run Tryz.prog w = .ok (.enter F #[v]) w := by
  unfold execOp
  simp [ho, go_sem, invoke, hen]
  rw [<- hx]
  cases x <;> simp [Act.eval]
 unfold Oper.wp
 rw [he, Oper.upon_enter]
 refine hc.mono ?_
 rintro e w' ⟨r, rfl, hk⟩
 exact hk
theorem Fr.drew {W W' : World} {b : Nat} {v v' : Value} (h : Fr W.drew W' b v v') : Fr W W' b v v' := (Fr.below b v (Below.refl _ _).drew).trans h
theorem zeb {E : PE} {z : Nat} {w0 W : World} {b : Nat} {tv : Value} {i d : Nat} {v : Value} {L : List Nd} (h : RS E z w0 W b tv i d v L) (hlt : i < E.l.length) (hz : E.l.length <= 1000000) :
  Calls Tryz.prog 90 #[.pointer (some ⟨b, 0, none⟩), .int .i64 (kdA E i)] W fun e W' => e = .returned (.tuple #[]) /\ RS E z w0 W' b tv (i + 1) d v L /\ Fr W W' b (.slice none 0 0) (.slice none 0 0) := by
 obtain ⟨t, ht, hk, _, _⟩ := zam E z h.hi
 have HH : Hid (∀ _ : Unit, Calls Tryz.prog 62 #[.pointer (some ⟨b, 0, none⟩)] W fun e W' => e = .returned (.agg #[.int .i64 t.kd, .int .i64 t.nn, .int .i64 t.fr, .int .i64 t.en, .string t.tx, .int .u64 t.s0, .int .u64 t.s1, .int .u64 t.s2, .int .u64 t.s3]) /\ Below W.heap.size W W') := fun _ => zaq h t ht
 have H := hO h
 have fl0 := zjz
 rw [<- hk]
 have t1 : (t.kd != t.kd) = false := by simp
 obtain ⟨j, hj⟩ : ∃ j, j = i + 1 := ⟨_, rfl⟩
 have u1 : IntKind.i64.wrap ((i : Int) + 1) = (j : Int) := by rw [IntKind.wrap_i64]; omega
 have hj2 : j <= E.l.length := by omega
 rw [<- hj]
 clear h ht hk hj
 go_enter Tryz.func90, Tryz.ntmps90
 go_wp2_with fail
 refine (HH.out ()).mono ?_
 rintro e w1 ⟨rfl, hb⟩
 have H1 := hO (H.out.later hb)
 have HF : Hid (Fr W w1 b (.slice none 0 0) (.slice none 0 0)) := Fr.below b _ hb
 clear hb HH H
 obtain ⟨k0, k1, k2, k3⟩ := H1.out.x.cl
 have f1' := H1.out.x.fz 1
 go_wp2_with fail
 go_end0
 exact ⟨rfl, H1.out.s1 hj2, HF.out.trans (Fr.set _ _ _ _ _)⟩
theorem rule_x {E : PE} (hE : OkE E) {z : Nat} {w0 : World} (hv : R.VB w0) {b : Nat} {tv : Value} {i : Nat} {W : World} {v : Value} {L : List Nd} (h : RS E z w0 W b tv i 0 v L) (hr : ruB E i = true) (q : Nat × Int) (hq : exN E (i + 2) = .inr q) : Calls Tryz.prog 66 #[.pointer (some ⟨b, 0, none⟩)] W fun e W' => e = pnc (plA E z q.1) q.2 /\ Below w0.heap.size w0 W' := by
 have hz := hE.z
 have hlt2 := zjN hr
 have hr2 := hr
 unfold ruB at hr2
 simp only [Bool.and_eq_true, beq_iff_eq] at hr2
 obtain ⟨t, ht, hk, hpl, hta⟩ := zam E z h.hi
 obtain rfl : t = tkA E i := hta (by omega)
 have HH : Hid (∀ W, RS E z w0 W b tv i 0 v L -> Calls Tryz.prog 62 #[.pointer (some ⟨b, 0, none⟩)] W fun e W' => e = .returned (.agg #[.int .i64 1, .int .i64 (tkA E i).nn, .int .i64 (plA E z i), .int .i64 (tkA E i).en, .string (tkA E i).tx, .int .u64 (tkA E i).s0, .int .u64 (tkA E i).s1, .int .u64 (tkA E i).s2, .int .u64 (tkA E i).s3]) /\ Below W.heap.size W W') := fun W h => by
  have := zaq h _ ht
  rw [hpl, hk, hr2.1] at this
  exact this
 have HP1 : Hid (∀ W, RS E z w0 W b tv i 0 v L -> Calls Tryz.prog 90 #[.pointer (some ⟨b, 0, none⟩), .int .i64 1] W fun e W' => e = .returned (.tuple #[]) /\ RS E z w0 W' b tv (i + 1) 0 v L /\ Fr W W' b (.slice none 0 0) (.slice none 0 0)) := fun W h => by
  have := zeb h (by omega) hz
  rw [hr2.1] at this
  exact this
 have HP2 : Hid (∀ W, RS E z w0 W b tv (i + 1) 0 v L -> Calls Tryz.prog 90 #[.pointer (some ⟨b, 0, none⟩), .int .i64 6] W fun e W' => e = .returned (.tuple #[]) /\ RS E z w0 W' b tv ((i + 1) + 1) 0 v L /\ Fr W W' b (.slice none 0 0) (.slice none 0 0)) := fun W h => by
  have := zeb h (by omega) hz
  rw [hr2.2] at this
  exact this
 have HP : Hid (PX (W.alloc (.cells #[.int .i64 0, .string ⟨#[]⟩, .slice none 0 0] 79)) W.heap.size (.int .i64 0) (.string ⟨#[]⟩) (.slice none 0 0)) := ⟨heap_alloc_new W _⟩
 have H : Hid (RS E z w0 (W.alloc (.cells #[.int .i64 0, .string ⟨#[]⟩, .slice none 0 0] 79)) b tv i 0 v L) := h.later (zaa _ _)
 have HF : Hid (Fr W (W.alloc (.cells #[.int .i64 0, .string ⟨#[]⟩, .slice none 0 0] 79)) b (.slice none 0 0) (.slice none 0 0)) := Fr.below b _ (zaa _ _)
 have hnb := h.x.lt
 have hw0 := h.bl.size
 have HBo : Hid (∀ W, RS E z w0 W b tv (i + 1 + 1) 0 v L -> Calls Tryz.prog 63 #[.pointer (some ⟨b, 0, none⟩)] W fun e W' => e = pnc (plA E z q.1) q.2 /\ Below w0.heap.size w0 W') := fun W h => zlk hE hv h q hq
 clear h ht hk hpl hta hE hv hq hr hr2
 generalize plA E z i = p0 at *
 generalize tkA E i = t at *
 go_enter Tryz.func66, Tryz.ntmps66
 go_wp2_with fail
 generalize W.alloc (.cells #[.int .i64 0, .string ⟨#[]⟩, .slice none 0 0] 79) = w1 at *
 refine (HH.out _ H.out).mono ?_
 rintro e w2 ⟨rfl, hb⟩
 have H2 : Hid (RS E z w0 (w2.alloc (.cells #[.int .i64 1, .int .i64 t.nn, .int .i64 p0, .int .i64 t.en, .string t.tx, .int .u64 t.s0, .int .u64 t.s1, .int .u64 t.s2, .int .u64 t.s3] 115)) b tv i 0 v L) := (H.out.later hb).later (zaa _ _)
 have HF2 : Hid (Fr W (w2.alloc (.cells #[.int .i64 1, .int .i64 t.nn, .int .i64 p0, .int .i64 t.en, .string t.tx, .int .u64 t.s0, .int .u64 t.s1, .int .u64 t.s2, .int .u64 t.s3] 115)) b (.slice none 0 0) (.slice none 0 0)) := HF.out.trans ((Fr.below b _ hb).trans (Fr.below b _ (zaa _ _)))
 have HP2' : Hid (PX (w2.alloc (.cells #[.int .i64 1, .int .i64 t.nn, .int .i64 p0, .int .i64 t.en, .string t.tx, .int .u64 t.s0, .int .u64 t.s1, .int .u64 t.s2, .int .u64 t.s3] 115)) W.heap.size (.int .i64 0) (.string ⟨#[]⟩) (.slice none 0 0)) := (HP.out.same (hb.block _ HP.out.lt)).same ((zaa w2 _).block _ (Nat.lt_of_lt_of_le HP.out.lt hb.size))
 have HT2 : Hid (TX (w2.alloc (.cells #[.int .i64 1, .int .i64 t.nn, .int .i64 p0, .int .i64 t.en, .string t.tx, .int .u64 t.s0, .int .u64 t.s1, .int .u64 t.s2, .int .u64 t.s3] 115)) w2.heap.size ⟨1, t.nn, p0, t.en, t.tx, t.s0, t.s1, t.s2, t.s3⟩) := ⟨heap_alloc_new w2 _⟩
 have hw2 : W.heap.size < w2.heap.size := Nat.lt_of_lt_of_le HP.out.lt hb.size
 clear hb HH H HF HP
 go_wp2_with fail
 generalize w2.alloc (.cells #[.int .i64 1, .int .i64 t.nn, .int .i64 p0, .int .i64 t.en, .string t.tx, .int .u64 t.s0, .int .u64 t.s1, .int .u64 t.s2, .int .u64 t.s3] 115) = w3 at *
 refine (HP1.out _ H2.out).mono ?_
 rintro e w4 ⟨rfl, h4, hf4⟩
 have H4 := hO h4
 have HF4 : Hid (Fr W w4 b (.slice none 0 0) (.slice none 0 0)) := HF2.out.trans hf4
 have HP4 := hO (HP2'.out.same (hf4.block _ HP2'.out.lt (by omega) (by intro q; cases q)))
 have HT4 := hO (zeu HT2.out hf4 (by omega) (by intro q; cases q))
 clear h4 hf4 H2 HF2 HP2' HT2 HP1
 go_wp2_with fail
 refine (HP2.out _ H4.out).mono ?_
 rintro e w5 ⟨rfl, h5, hf5⟩
 have H5 := hO h5
 have HF5 : Hid (Fr W w5 b (.slice none 0 0) (.slice none 0 0)) := HF4.out.trans hf5
 have HP5 := hO (HP4.out.same (hf5.block _ HP4.out.lt (by omega) (by intro q; cases q)))
 have HT5 := hO (zeu HT4.out hf5 (by omega) (by intro q; cases q))
 clear h5 hf5 H4 HF4 HP4 HT4 HP2
 have HD : Hid (RS E z w0 w5.drew b tv (i + 1 + 1) 0 v L) := H5.out.later (Below.refl _ _).drew
 obtain ⟨c0, c1, c2, c3, c4, c5, c6, c7, c8⟩ := HT5.out.cells
 go_wp2_with fail
 have HQ : Hid (∀ act : Act, act.defers = [] -> Calls Tryz.prog 63 #[.pointer (some ⟨b, 0, none⟩)] w5.drew fun e w' => ∃ ch, e = .panicked ch /\ bodyPost Tryz.prog Tryz.f66 (fun e W' => e = pnc (plA E z q.1) q.2 /\ Below w0.heap.size w0 W') (.panic ch) act w') := fun act hd => (HBo.out _ HD.out).mono (by
  rintro e wA ⟨rfl, hb⟩
  exact ⟨_, rfl, zac hd ⟨rfl, hb⟩⟩)
 obtain ⟨y0, y1, y2⟩ := HP5.out.cl
 have g0 := HP5.out.fz 0
 have g1 := HP5.out.fz 1
 have g2 := HP5.out.fz 2
 go_region_law (refine zju ziI rfl _ _ (by rfl) (.pointer (some ⟨b, 0, none⟩)) (by rfl) ?_ ?_; exact HQ.out _ rfl; intro hf)
 all_goals exact hf.out.elim
theorem zq6 {E : PE} (hE : OkE E) {z : Nat} {w0 : World} (hv : R.VB w0) {b : Nat} {tv : Value} {i : Nat} {W : World} {v : Value} {L : List Nd} (h : RS E z w0 W b tv i 0 v L) (hr : ruB E i = true) (a : Nat) (ns : List Nd) (hq : exN E (i + 2) = .inl (a, ns)) : Calls Tryz.prog 66 #[.pointer (some ⟨b, 0, none⟩)] W fun e W' => ∃ v', e = .returned (.agg #[.int .i64 (plA E z i), .string (tkA E i).tx, v']) /\ RS E z w0 W' b tv a 0 v' ns /\ Fr W W' b (.slice none 0 0) v' := by
 have hz := hE.z
 have hlt2 := zjN hr
 have hr2 := hr
 unfold ruB at hr2
 simp only [Bool.and_eq_true, beq_iff_eq] at hr2
 obtain ⟨t, ht, hk, hpl, hta⟩ := zam E z h.hi
 obtain rfl : t = tkA E i := hta (by omega)
 have HH : Hid (∀ W, RS E z w0 W b tv i 0 v L -> Calls Tryz.prog 62 #[.pointer (some ⟨b, 0, none⟩)] W fun e W' => e = .returned (.agg #[.int .i64 1, .int .i64 (tkA E i).nn, .int .i64 (plA E z i), .int .i64 (tkA E i).en, .string (tkA E i).tx, .int .u64 (tkA E i).s0, .int .u64 (tkA E i).s1, .int .u64 (tkA E i).s2, .int .u64 (tkA E i).s3]) /\ Below W.heap.size W W') := fun W h => by
  have := zaq h _ ht
  rw [hpl, hk, hr2.1] at this
  exact this
 have HP1 : Hid (∀ W, RS E z w0 W b tv i 0 v L -> Calls Tryz.prog 90 #[.pointer (some ⟨b, 0, none⟩), .int .i64 1] W fun e W' => e = .returned (.tuple #[]) /\ RS E z w0 W' b tv (i + 1) 0 v L /\ Fr W W' b (.slice none 0 0) (.slice none 0 0)) := fun W h => by
  have := zeb h (by omega) hz
  rw [hr2.1] at this
  exact this
 have HP2 : Hid (∀ W, RS E z w0 W b tv (i + 1) 0 v L -> Calls Tryz.prog 90 #[.pointer (some ⟨b, 0, none⟩), .int .i64 6] W fun e W' => e = .returned (.tuple #[]) /\ RS E z w0 W' b tv ((i + 1) + 1) 0 v L /\ Fr W W' b (.slice none 0 0) (.slice none 0 0)) := fun W h => by
  have := zeb h (by omega) hz
  rw [hr2.2] at this
  exact this
 have HP : Hid (PX (W.alloc (.cells #[.int .i64 0, .string ⟨#[]⟩, .slice none 0 0] 79)) W.heap.size (.int .i64 0) (.string ⟨#[]⟩) (.slice none 0 0)) := ⟨heap_alloc_new W _⟩
 have H : Hid (RS E z w0 (W.alloc (.cells #[.int .i64 0, .string ⟨#[]⟩, .slice none 0 0] 79)) b tv i 0 v L) := h.later (zaa _ _)
 have HF : Hid (Fr W (W.alloc (.cells #[.int .i64 0, .string ⟨#[]⟩, .slice none 0 0] 79)) b (.slice none 0 0) (.slice none 0 0)) := Fr.below b _ (zaa _ _)
 have hnb := h.x.lt
 have hw0 := h.bl.size
 have HBo : Hid (∀ W, RS E z w0 W b tv (i + 1 + 1) 0 v L -> Calls Tryz.prog 63 #[.pointer (some ⟨b, 0, none⟩)] W fun e W' => ∃ v', e = .returned v' /\ RS E z w0 W' b tv a 0 v' ns /\ Fr W W' b (.slice none 0 0) v') := fun W h => zhw hE hv h a ns hq
 clear h ht hk hpl hta hE hv hq hr hr2
 generalize plA E z i = p0 at *
 generalize tkA E i = t at *
 go_enter Tryz.func66, Tryz.ntmps66
 go_wp2_with fail
 generalize W.alloc (.cells #[.int .i64 0, .string ⟨#[]⟩, .slice none 0 0] 79) = w1 at *
 refine (HH.out _ H.out).mono ?_
 rintro e w2 ⟨rfl, hb⟩
 have H2 : Hid (RS E z w0 (w2.alloc (.cells #[.int .i64 1, .int .i64 t.nn, .int .i64 p0, .int .i64 t.en, .string t.tx, .int .u64 t.s0, .int .u64 t.s1, .int .u64 t.s2, .int .u64 t.s3] 115)) b tv i 0 v L) := (H.out.later hb).later (zaa _ _)
 have HF2 : Hid (Fr W (w2.alloc (.cells #[.int .i64 1, .int .i64 t.nn, .int .i64 p0, .int .i64 t.en, .string t.tx, .int .u64 t.s0, .int .u64 t.s1, .int .u64 t.s2, .int .u64 t.s3] 115)) b (.slice none 0 0) (.slice none 0 0)) := HF.out.trans ((Fr.below b _ hb).trans (Fr.below b _ (zaa _ _)))
 have HP2' : Hid (PX (w2.alloc (.cells #[.int .i64 1, .int .i64 t.nn, .int .i64 p0, .int .i64 t.en, .string t.tx, .int .u64 t.s0, .int .u64 t.s1, .int .u64 t.s2, .int .u64 t.s3] 115)) W.heap.size (.int .i64 0) (.string ⟨#[]⟩) (.slice none 0 0)) := (HP.out.same (hb.block _ HP.out.lt)).same ((zaa w2 _).block _ (Nat.lt_of_lt_of_le HP.out.lt hb.size))
 have HT2 : Hid (TX (w2.alloc (.cells #[.int .i64 1, .int .i64 t.nn, .int .i64 p0, .int .i64 t.en, .string t.tx, .int .u64 t.s0, .int .u64 t.s1, .int .u64 t.s2, .int .u64 t.s3] 115)) w2.heap.size ⟨1, t.nn, p0, t.en, t.tx, t.s0, t.s1, t.s2, t.s3⟩) := ⟨heap_alloc_new w2 _⟩
 have hw2 : W.heap.size < w2.heap.size := Nat.lt_of_lt_of_le HP.out.lt hb.size
 clear hb HH H HF HP
 go_wp2_with fail
 generalize w2.alloc (.cells #[.int .i64 1, .int .i64 t.nn, .int .i64 p0, .int .i64 t.en, .string t.tx, .int .u64 t.s0, .int .u64 t.s1, .int .u64 t.s2, .int .u64 t.s3] 115) = w3 at *
 refine (HP1.out _ H2.out).mono ?_
 rintro e w4 ⟨rfl, h4, hf4⟩
 have H4 := hO h4
 have HF4 : Hid (Fr W w4 b (.slice none 0 0) (.slice none 0 0)) := HF2.out.trans hf4
 have HP4 := hO (HP2'.out.same (hf4.block _ HP2'.out.lt (by omega) (by intro q; cases q)))
 have HT4 := hO (zeu HT2.out hf4 (by omega) (by intro q; cases q))
 clear h4 hf4 H2 HF2 HP2' HT2 HP1
 go_wp2_with fail
 refine (HP2.out _ H4.out).mono ?_
 rintro e w5 ⟨rfl, h5, hf5⟩
 have H5 := hO h5
 have HF5 : Hid (Fr W w5 b (.slice none 0 0) (.slice none 0 0)) := HF4.out.trans hf5
 have HP5 := hO (HP4.out.same (hf5.block _ HP4.out.lt (by omega) (by intro q; cases q)))
 have HT5 := hO (zeu HT4.out hf5 (by omega) (by intro q; cases q))
 clear h5 hf5 H4 HF4 HP4 HT4 HP2
 have HD : Hid (RS E z w0 w5.drew b tv (i + 1 + 1) 0 v L) := H5.out.later (Below.refl _ _).drew
 obtain ⟨c0, c1, c2, c3, c4, c5, c6, c7, c8⟩ := HT5.out.cells
 go_wp2_with fail
 have HA := (show Hid (∀ wA A3 n3, RS E z w0 wA b tv a 0 (.slice A3 ns.length n3) ns -> Fr w5.drew wA b (.slice none 0 0) (.slice A3 ns.length n3) -> PX wA W.heap.size (.int .i64 0) (.string ⟨#[]⟩) (.slice none 0 0) /\ TX wA w2.heap.size ⟨1, t.nn, p0, t.en, t.tx, t.s0, t.s1, t.s2, t.s3⟩ /\ Fr W wA b (.slice none 0 0) (.slice A3 ns.length n3)) from fun wA A3 n3 hA hf => by
  have hf := hf.drew
  exact ⟨HP5.out.same (hf.block _ HP5.out.lt (by omega) (by intro q; cases q)), HT5.out.same (hf.block _ HT5.out.lt (by omega) (by intro q; cases q)), HF5.out.trans hf⟩)
 go_region_law (refine T.zjt ziI rfl _ _ (by rfl) (.pointer (some ⟨b, 0, none⟩)) (by rfl) ?_; with_reducible refine (HBo.out _ HD.out).mono ?_; rintro e wA ⟨v6, rfl, h6, hf6⟩; obtain ⟨A3, n3, rfl⟩ := zb4 h6.o; refine ⟨_, rfl, ?_⟩; have HY := zoC (HA.out wA A3 n3 h6 hf6); have H6 := zoC h6; obtain ⟨y0, y1, y2⟩ := HY.out.1.cl; have g0 := HY.out.1.fz 0; have g1 := HY.out.1.fz 1; have g2 := HY.out.1.fz 2; obtain ⟨d0, d1, d2, d3, d4, d5, d6, d7, d8⟩ := HY.out.2.1.cells)
 all_goals
  clear c0 c1 c2 c3 c4 c5 c6 c7 c8 d0 d1 d2 d3 d4 d5 d6 d7 d8 y0 y1 y2 g0 g1 g2
  go_wp2_with fail
  refine zoB rfl rfl rfl (zoA HY.out.1 (.int .i64 p0) (.string t.tx) (.slice A3 ns.length n3)) ?_
  exact ⟨_, rfl, H6.out.st3 HY.out.1 hw0 _ _ _, HY.out.2.2.st3 (Nat.le_refl _) _ _ _⟩
end Go.Proofs.YtnpifgcgjgddoaaGreatDoor.N
