/- DERIVED. Plain mathematics and walks, laid together (2). -/
import Derived.Lib.Builder
import Derived.WalkKit
import Derived.ProofKit
import Derived.BigQuiet
import Derived.Test.YtnpifgcgjgddoaaGreatDoorPw01
set_option maxRecDepth 100000
set_option maxHeartbeats 8000000
namespace Go.Proofs.YtnpifgcgjgddoaaGreatDoor
open Go.RowKit
theorem Tryz.sizeB : (Tryz.prog.info? 57).map (·.size) = some 2 := by kernel_rfl
theorem zcQ (b : Nat) (w : World) (h0 : w.cell? ⟨b, 0, none⟩ = some (.pointer (some ⟨b, 0, none⟩))) :
  Calls Tryz.prog 71 #[.pointer (some ⟨b, 0, none⟩)] w fun e w' => e = .returned (.tuple #[]) /\ w' = w := by
 obtain ⟨j, hj, hjs⟩ := Option.map_eq_some_iff.1 Tryz.sizeB
 go_enter Tryz.func71, Tryz.ntmps71
 go_wp2
 rw [Lib.run_neq_ptr_same w _ Tryz.underlying54 hj]
 go_wp2
 go_end0
 exact ⟨rfl, rfl⟩
theorem zc3 (b : Nat) (w : World) (h0 : w.cell? ⟨b, 0, none⟩ = some (.pointer none)) (hsh : w.shape? b = some (57, 2)) (hfz : w.frozen? ⟨b, 0, none⟩ = false) :
  Calls Tryz.prog 71 #[.pointer (some ⟨b, 0, none⟩)] w fun e w' => e = .returned (.tuple #[]) /\ w' = w.setCell ⟨b, 0, none⟩ (.pointer (some ⟨b, 0, none⟩)) := by
 obtain ⟨j, hj, hjs⟩ := Option.map_eq_some_iff.1 Tryz.sizeB
 go_enter Tryz.func71, Tryz.ntmps71
 go_wp2
 rw [Lib.run_to_unsafe w ⟨b, 0, none⟩ Tryz.underlying54 Tryz.underlying140 hj (by rw [hjs]; decide) hsh (Nat.zero_lt_succ 1)]
 simp only [Result.andThen]
 rw [Oper.upon_value]
 go_wp2
 rw [run_callFunc_extern Tryz.func94 (by kernel_rfl) (by kernel_rfl) (by kernel_rfl) (e := Extern.AbiNoEscape.same) (by kernel_rfl)]
 rw [Lib.run_noEscape]
 simp only [Result.andThen]
 rw [Oper.upon_value]
 go_wp2
 rw [Lib.run_from_unsafe w ⟨b, 0, none⟩ Tryz.underlying140 Tryz.underlying54 hj hsh (by kernel_rfl)]
 simp only [Result.andThen]
 rw [Oper.upon_value]
 go_wp2
 go_end0
 exact ⟨rfl, rfl⟩
structure KeepT (b : Nat) (w w' : World) : Prop where
 size : w.heap.size <= w'.heap.size
 block : ∀ k, k < w.heap.size -> k ≠ b -> (∀ c fr, w.heap[k]? ≠ some (.cells c 5 fr)) -> w'.heap[k]? = w.heap[k]?
theorem KeepT.refl (b : Nat) (w : World) : KeepT b w w := ⟨Nat.le_refl _, fun _ _ _ _ => rfl⟩
theorem KeepT.trans {b : Nat} {x y z : World} (h : KeepT b x y) (k : KeepT b y z) : KeepT b x z :=
 ⟨Nat.le_trans h.size k.size, fun j hj hb ht => by
  have e := h.block j hj hb ht
  exact (k.block j (Nat.lt_of_lt_of_le hj h.size) hb (fun c fr => by rw [e]; exact ht c fr)).trans e⟩
theorem KeepT.setCell (b j : Nat) (w : World) (u : Value) : KeepT b w (w.setCell ⟨b, j, none⟩ u) :=
 ⟨by simp [World.setCell], fun k _ hk _ => Below.heap_setCell _ _ _ _ hk⟩
theorem KeepT.alloc (b : Nat) (w : World) (o : Obj) : KeepT b w (w.alloc o) := ⟨by simp, fun k hk _ _ => Below.heap_alloc _ _ _ hk⟩
theorem KeepT.grown {b : Nat} {w w' : World} {base : Nat} {v : Value} {n : Nat} {xs : List Value} (ho : w.ownsRow base 5 1 v n xs) (hg : w.grownBy w' v.ownBlock) : KeepT b w w' :=
 ⟨hg.size, fun k hk _ ht => hg.block k hk (fun e => by
  rcases ho.2 with ⟨rfl, _⟩ | ⟨g, cap, cur, rfl, _, hgb, _⟩
  ·cases e
  ·obtain rfl : k = g := by simpa [Value.ownBlock] using e
   exact ht _ _ hgb)⟩
theorem KeepT.below {b : Nat} {w w' : World} (h : Below w.heap.size w w') : KeepT b w w' := ⟨h.size, fun k hk _ _ => h.block k hk⟩
theorem zbb (b : Nat) (bs : List Value) (w : World) (h : Lib.IsBuilder 57 5 b b bs w) :
  Calls Tryz.prog 71 #[.pointer (some ⟨b, 0, none⟩)] w fun e w' => e = .returned (.tuple #[]) /\ Lib.BuilderAt 57 5 b b (.pointer (some ⟨b, 0, none⟩)) bs w' /\ Below b w w' /\ KeepT b w w' := by
 rcases h with h | h
 ·refine (zc3 b w h.cell0 h.shape h.frozen0).mono ?_
  rintro e w' ⟨rfl, rfl⟩
  exact ⟨rfl, h.used _, (Below.refl b w).setCell (p := ⟨b, 0, none⟩) h.1 _, KeepT.setCell b 0 w _⟩
 ·refine (zcQ b w h.cell0).mono ?_
  rintro e w' ⟨rfl, rfl⟩
  exact ⟨rfl, h, Below.refl b _, KeepT.refl b _⟩
theorem zbp (b : Nat) (bs : List Value) (c : Int) (w : World) (h : Lib.IsBuilder 57 5 b b bs w) (hlen : bs.length + 1 <= 140737488355328) :
  Calls Tryz.prog 123 #[.pointer (some ⟨b, 0, none⟩), .int .u8 c] w fun e w' => e = .returned .nilIface /\ Lib.IsBuilder 57 5 b b (bs ++ [.int .u8 c]) w' /\ Below b w w' /\ KeepT b w w' := by
 obtain ⟨i0, hi, hz0, hz1, hz2⟩ := info_parts Tryz.info5
 go_enter Tryz.func123, Tryz.ntmps123
 go_wp2_with fail
 refine (zbb b bs _ h).mono ?_
 rintro e w1 ⟨rfl, h1, hb1, hk1⟩
 have hlt := h1.lt
 obtain ⟨hB, v, hbk, hown, hne⟩ := h1
 have c0 : w1.cell? ⟨b, 0, none⟩ = some (.pointer (some ⟨b, 0, none⟩)) := by rw [Lib.cell_of_heap hbk]; rfl
 have c1 : w1.cell? ⟨b, 1, none⟩ = some v := by rw [Lib.cell_of_heap hbk]; rfl
 go_wp2_with (at_builtin; refine wpList_append_own _ rfl _ _ 55 rfl b 5 i0 (.int .u8 0) 1 1 Tryz.underlying55 hi hz0 hz1 hz2 rfl (by decide) _ _ _ rfl (hown.alloc _) ⟨w1.heap.size, 0, none⟩ 1 1 [.int .u8 c] rfl rfl (cell_one_new _ _ _) ?c2 ?c3 ?c4 ?c5 ?_)
 case c2 => intro u hu; simp at hu; subst hu; rfl
 case c3 => unfold maxLen; omega
 case c4 => omega
 case c5 => simp; omega
 intro v' w2 hown' hgrow _
 have hb2 : w2.heap[b]? = some (.cells #[.pointer (some ⟨b, 0, none⟩), v] 57 (0, 0)) := by
  rw [hgrow.block b (by simp; omega) (fun e => hne e.symm), Lib.alloc_old w1 _ b hlt]
  exact hbk
 have d0 : w2.cell? ⟨b, 0, none⟩ = some (.pointer (some ⟨b, 0, none⟩)) := by rw [Lib.cell_of_heap hb2]; rfl
 have d1 : w2.cell? ⟨b, 1, none⟩ = some v := by rw [Lib.cell_of_heap hb2]; rfl
 have f1 : w2.frozen? ⟨b, 1, none⟩ = false := Lib.frozen_of_heap hb2 1
 obtain ⟨g, cap, rfl⟩ := ownsRow_succ hown'
 go_wp2
 go_ret
 refine ⟨rfl, .inr ?_, ?_, ?_⟩
 ·exact Lib.BuilderAt.put (T := 57) (e := 5) hB hb2 (bs' := bs ++ [.int .u8 c]) (by simpa using hown') (by decide)
 ·exact ((hb1.alloc (by omega) _).grown hgrow (by simp; omega) (fun k hk => (hown.lt k hk).1)).setCell (p := ⟨b, 1, none⟩) hB _
 ·exact ((hk1.trans (KeepT.alloc b w1 _)).trans (KeepT.grown (hown.alloc _) hgrow)).trans (KeepT.setCell b 1 w2 _)
theorem zbT (b : Nat) (bs : List Value) (s : ByteArray) (w : World) (h : Lib.IsBuilder 57 5 b b bs w) (hlen : bs.length + s.size <= 140737488355328) :
  Calls Tryz.prog 48 #[.pointer (some ⟨b, 0, none⟩), .string s] w fun e w' => e = .returned (.tuple #[.int .i64 s.size, .nilIface]) /\ Lib.IsBuilder 57 5 b b (bs ++ Lib.strCells s) w' /\ Below b w w' /\ KeepT b w w' := by
 obtain ⟨i0, hi, hz0, hz1, hz2⟩ := info_parts Tryz.info5
 go_enter Tryz.func48, Tryz.ntmps48
 go_wp2_with fail
 refine (zbb b bs _ h).mono ?_
 rintro e w1 ⟨rfl, h1, hb1, hk1⟩
 have hlt := h1.lt
 obtain ⟨hB, v, hbk, hown, hne⟩ := h1
 have c0 : w1.cell? ⟨b, 0, none⟩ = some (.pointer (some ⟨b, 0, none⟩)) := by rw [Lib.cell_of_heap hbk]; rfl
 have c1 : w1.cell? ⟨b, 1, none⟩ = some v := by rw [Lib.cell_of_heap hbk]; rfl
 go_wp2_with (at_builtin; refine Lib.wpList_append_own_string _ rfl _ _ 55 9 rfl b 5 i0 Tryz.underlying55 Tryz.underlying9 hi hz0 hz1 hz2 _ _ _ rfl hown s rfl ?c3 ?c4 ?c5 ?_)
 case c3 => unfold maxLen; omega
 case c4 => omega
 case c5 => omega
 intro v' w2 hown' hgrow _
 have hb2 : w2.heap[b]? = some (.cells #[.pointer (some ⟨b, 0, none⟩), v] 57 (0, 0)) := by
  rw [hgrow.block b hlt (fun e => hne e.symm)]
  exact hbk
 have d0 : w2.cell? ⟨b, 0, none⟩ = some (.pointer (some ⟨b, 0, none⟩)) := by rw [Lib.cell_of_heap hb2]; rfl
 have d1 : w2.cell? ⟨b, 1, none⟩ = some v := by rw [Lib.cell_of_heap hb2]; rfl
 have f1 : w2.frozen? ⟨b, 1, none⟩ = false := Lib.frozen_of_heap hb2 1
 obtain ⟨ao, n', cap, rfl⟩ : ∃ ao n' cap, v' = .slice ao n' cap := by
  rcases hown'.2 with ⟨hv, _⟩ | ⟨g, cap, cur, hv, _⟩
  ·exact ⟨_, _, _, hv⟩
  ·exact ⟨_, _, _, hv⟩
 go_wp2
 go_ret2
 refine ⟨rfl, .inr ?_, ?_, ?_⟩
 ·exact Lib.BuilderAt.put (T := 57) (e := 5) hB hb2 (bs' := bs ++ Lib.strCells s) (by simpa [Lib.strCells_length] using hown') (by decide)
 ·exact (hb1.grown hgrow (by omega) (fun k hk => (hown.lt k hk).1)).setCell (p := ⟨b, 1, none⟩) hB _
 ·exact (hk1.trans (KeepT.grown hown hgrow)).trans (KeepT.setCell b 1 w2 _)
def zbc (b : Int) : Bool := (b == 92) || ((b == 93) || ((b == 91) || ((b == 94) || ((b == 45) || (b == 37)))))
def zjO (b : Int) : Bool := decide (32 <= b) && decide (b <= 126)
theorem zbq (b : Int) (w : World) :
  Calls Tryz.prog 168 #[.int .i64 b] w fun e w' => e = .returned (.bool (zjO b)) /\ w' = w := by
 by_cases h0 : 32 <= b
 ·have hd : decide (32 <= b) = true := by simpa using h0
  go_enter Tryz.func168, Tryz.ntmps168
  go_wp2
  go_ret
  exact ⟨by simp [zjO, h0], rfl⟩
 ·have hd : decide (32 <= b) = false := by simpa using h0
  go_enter Tryz.func168, Tryz.ntmps168
  go_wp2
  go_ret
  exact ⟨by unfold zjO; rw [hd]; rfl, rfl⟩
theorem zce (b : Int) (w : World) :
  Calls Tryz.prog 167 #[.int .i64 b] w fun e w' => e = .returned (.bool (zbc b)) /\ w' = w := by
 cases h1 : (b == 92)
 ·cases h2 : (b == 93)
  ·cases h3 : (b == 91)
   ·cases h4 : (b == 94)
    ·cases h5 : (b == 45)
     ·cases h6 : (b == 37)
      ·have HE : Hid (zbc b = false) := (by show zbc b = false; unfold zbc; rw [h1, h2, h3, h4, h5, h6]; rfl)
       go_enter Tryz.func167, Tryz.ntmps167
       go_wp2
       go_ret
       exact ⟨zaZ HE.out.symm, rfl⟩
      ·have HE : Hid (zbc b = true) := (by show zbc b = true; unfold zbc; rw [h1, h2, h3, h4, h5, h6]; rfl)
       go_enter Tryz.func167, Tryz.ntmps167
       go_wp2
       go_ret
       exact ⟨zaZ HE.out.symm, rfl⟩
     ·have HE : Hid (zbc b = true) := (by show zbc b = true; unfold zbc; rw [h5]; simp)
      go_enter Tryz.func167, Tryz.ntmps167
      go_wp2
      go_ret
      exact ⟨zaZ HE.out.symm, rfl⟩
    ·have HE : Hid (zbc b = true) := (by show zbc b = true; unfold zbc; rw [h4]; simp)
     go_enter Tryz.func167, Tryz.ntmps167
     go_wp2
     go_ret
     exact ⟨zaZ HE.out.symm, rfl⟩
   ·have HE : Hid (zbc b = true) := (by show zbc b = true; unfold zbc; rw [h3]; simp)
    go_enter Tryz.func167, Tryz.ntmps167
    go_wp2
    go_ret
    exact ⟨zaZ HE.out.symm, rfl⟩
  ·have HE : Hid (zbc b = true) := (by show zbc b = true; unfold zbc; rw [h2]; simp)
   go_enter Tryz.func167, Tryz.ntmps167
   go_wp2
   go_ret
   exact ⟨zaZ HE.out.symm, rfl⟩
 ·have HE : Hid (zbc b = true) := (by show zbc b = true; unfold zbc; rw [h1]; simp)
  go_enter Tryz.func167, Tryz.ntmps167
  go_wp2
  go_ret
  exact ⟨zaZ HE.out.symm, rfl⟩
def zb4 (n : Nat) : UInt8 := (#[48, 49, 50, 51, 52, 53, 54, 55, 56, 57, 97, 98, 99, 100, 101, 102] : Array UInt8).getD n 0
def itm (b : Nat) : List UInt8 :=
 if b = 10 then [92, 110] else if b = 13 then [92, 114] else if b = 9 then [92, 116] else
 if zbc b then [92, UInt8.ofNat b] else if zjO b then [UInt8.ofNat b] else [92, 120, zb4 (b / 16), zb4 (b % 16)]
theorem zfx {a b : ByteArray} (h : a = b) : Ending.returned (.string a) = .returned (.string b) := by rw [h]
theorem cat11 (a b : UInt8) : (⟨#[a]⟩ : ByteArray) ++ ⟨#[b]⟩ = ⟨#[a, b]⟩ := by apply ByteArray.ext; simp
theorem cat22 (a b c d : UInt8) : (⟨#[a, b]⟩ : ByteArray) ++ ⟨#[c, d]⟩ = ⟨#[a, b, c, d]⟩ := by apply ByteArray.ext; simp
theorem zl8 (c : Int) (w : World) : (convert 55 9 (.slice (some ⟨w.heap.size, 0, none⟩) 1 1)).run Tryz.prog (w.alloc (.cells #[.int .u8 c] 5)) = .ok (.string ⟨#[UInt8.ofNat c.toNat]⟩) (w.alloc (.cells #[.int .u8 c] 5)) := by
 rw [run_convert_bytes_string _ 55 9 5 _ _ _ Tryz.underlying55 Tryz.underlying5 Tryz.underlying9]
 exact run_bytesToString _ ⟨w.heap.size, 0, none⟩ 1 1 [c] (run_loadCells_list (P := Tryz.prog) _ ⟨w.heap.size, 0, none⟩ [.int .u8 c] (cell_one_new _ _ _))
theorem conv2d (c d : Int) (w : World) : (convert 55 9 (.slice (some ⟨w.heap.size, 0, none⟩) 2 2)).run Tryz.prog (w.alloc (.cells #[.int .u8 c, .int .u8 d] 5)).drew = .ok (.string ⟨#[UInt8.ofNat c.toNat, UInt8.ofNat d.toNat]⟩) (w.alloc (.cells #[.int .u8 c, .int .u8 d] 5)).drew := by
 rw [run_convert_bytes_string _ 55 9 5 _ _ _ Tryz.underlying55 Tryz.underlying5 Tryz.underlying9]
 exact run_bytesToString _ ⟨w.heap.size, 0, none⟩ 2 2 [c, d] (run_loadCells_list (P := Tryz.prog) _ ⟨w.heap.size, 0, none⟩ [.int .u8 c, .int .u8 d] (fun j u h => by
  have := cell_two_new w (.int .u8 c) (.int .u8 d) 5 j u h
  exact this))
theorem znW (n : Nat) (h : n < 16) : UInt8.ofNat ((((⟨#[48, 49, 50, 51, 52, 53, 54, 55, 56, 57, 97, 98, 99, 100, 101, 102]⟩ : ByteArray)[n]'h).toNat : Int).toNat) = zb4 n := by
 rw [Int.toNat_natCast, UInt8.ofNat_toNat]
 unfold zb4; rw [Array.getD_eq_getD_getElem?, Array.getElem?_eq_getElem h]; rfl
theorem zjP (b : Nat) (hb : b < 256) (w : World) (h1 : ((b : Int) == 10) = false) (h2 : ((b : Int) == 13) = false) (h3 : ((b : Int) == 9) = false) (h4 : zbc (b : Int) = true) :
  Calls Tryz.prog 151 #[.int .i64 b] w fun e w' => e = .returned (.string ⟨#[92, UInt8.ofNat b]⟩) /\ Below w.heap.size w w' := by
 have hw8 : IntKind.u8.wrap (b : Int) = (b : Int) := by rw [IntKind.wrap_u8']; omega
 have hcv := zl8 b w
 rw [Int.toNat_natCast] at hcv
 go_enter Tryz.func151, Tryz.ntmps151
 go_wp2_with fail
 refine (zce _ _).mono ?_
 rintro e w' ⟨rfl, rfl⟩
 go_wp2
 go_ret
 exact ⟨zfx (cat11 _ _), zaX _ _⟩
theorem zl9 (b : Nat) (hb : b < 256) (w : World) (h1 : ((b : Int) == 10) = false) (h2 : ((b : Int) == 13) = false) (h3 : ((b : Int) == 9) = false) (h4 : zbc (b : Int) = false) (h5 : zjO (b : Int) = true) :
  Calls Tryz.prog 151 #[.int .i64 b] w fun e w' => e = .returned (.string ⟨#[UInt8.ofNat b]⟩) /\ Below w.heap.size w w' := by
 have hw8 : IntKind.u8.wrap (b : Int) = (b : Int) := by rw [IntKind.wrap_u8']; omega
 have hcv := zl8 b w
 rw [Int.toNat_natCast] at hcv
 go_enter Tryz.func151, Tryz.ntmps151
 go_wp2_with fail
 refine (zce _ _).mono ?_
 rintro e w' ⟨rfl, rfl⟩
 go_wp2_with fail
 refine (zbq _ _).mono ?_
 rintro e w' ⟨rfl, rfl⟩
 go_wp2
 go_ret
 exact ⟨rfl, zaX _ _⟩
theorem zma (b : Nat) (hb : b < 256) (w : World) (h1 : ((b : Int) == 10) = false) (h2 : ((b : Int) == 13) = false) (h3 : ((b : Int) == 9) = false) (h4 : zbc (b : Int) = false) (h5 : zjO (b : Int) = false) :
  Calls Tryz.prog 151 #[.int .i64 b] w fun e w' => e = .returned (.string ⟨#[92, 120, zb4 (b / 16), zb4 (b % 16)]⟩) /\ Below w.heap.size w w' := by
 have t1 : IntKind.i64.wrap ((b : Int) / 16) = ((b / 16 : Nat) : Int) := by rw [IntKind.wrap_i64]; omega
 have t2 : IntKind.i64.wrap ((b : Int) % 16) = ((b % 16 : Nat) : Int) := by rw [IntKind.wrap_i64]; omega
 have t3 : (b : Int) / 16 = ((b / 16 : Nat) : Int) := by omega
 have t4 : (b : Int) % 16 = ((b % 16 : Nat) : Int) := by omega
 have k0 : (0 : Int) <= ((b / 16 : Nat) : Int) := by omega
 have k1 : ((b / 16 : Nat) : Int) < 16 := by omega
 have k2 : (0 : Int) <= ((b % 16 : Nat) : Int) := by omega
 have k3 : ((b % 16 : Nat) : Int) < 16 := by omega
 have q1 : b / 16 < 16 := by omega
 have q2 : b % 16 < 16 := by omega
 have hcv := conv2d ((⟨#[48, 49, 50, 51, 52, 53, 54, 55, 56, 57, 97, 98, 99, 100, 101, 102]⟩ : ByteArray)[b / 16]'q1).toNat ((⟨#[48, 49, 50, 51, 52, 53, 54, 55, 56, 57, 97, 98, 99, 100, 101, 102]⟩ : ByteArray)[b % 16]'q2).toNat w
 rw [znW _ q1, znW _ q2] at hcv
 generalize b / 16 = m at *
 generalize b % 16 = n at *
 go_enter Tryz.func151, Tryz.ntmps151
 go_wp2_with fail
 refine (zce _ _).mono ?_
 rintro e w' ⟨rfl, rfl⟩
 go_wp2_with fail
 refine (zbq _ _).mono ?_
 rintro e w' ⟨rfl, rfl⟩
 go_wp2_with fail
 go_region
 all_goals
  go_wp2
  go_ret
  exact ⟨zfx (cat22 _ _ _ _), (zaX _ _).drew⟩
theorem zmb (b : Nat) (hb : b < 256) (w : World) :
  Calls Tryz.prog 151 #[.int .i64 b] w fun e w' => e = .returned (.string ⟨(itm b).toArray⟩) /\ Below w.heap.size w w' := by
 unfold itm
 by_cases h1 : b = 10
 ·subst h1; rw [if_pos rfl]
  go_enter Tryz.func151, Tryz.ntmps151
  go_wp2
  go_ret
  exact ⟨rfl, Below.refl _ _⟩
 rw [if_neg h1]
 by_cases h2 : b = 13
 ·subst h2; rw [if_pos rfl]
  go_enter Tryz.func151, Tryz.ntmps151
  go_wp2
  go_ret
  exact ⟨rfl, Below.refl _ _⟩
 rw [if_neg h2]
 by_cases h3 : b = 9
 ·subst h3; rw [if_pos rfl]
  go_enter Tryz.func151, Tryz.ntmps151
  go_wp2
  go_ret
  exact ⟨rfl, Below.refl _ _⟩
 rw [if_neg h3]
 have e1 : ((b : Int) == 10) = false := bF (by omega)
 have e2 : ((b : Int) == 13) = false := bF (by omega)
 have e3 : ((b : Int) == 9) = false := bF (by omega)
 cases h4 : zbc (b : Int)
 ·rw [if_neg (by simp)]
  cases h5 : zjO (b : Int)
  ·rw [if_neg (by simp)]; exact zma b hb w e1 e2 e3 h4 h5
  ·rw [if_pos rfl]; exact zl9 b hb w e1 e2 e3 h4 h5
 ·rw [if_pos rfl]; exact zjP b hb w e1 e2 e3 h4
def sml (n : Nat) : BitVec 256 × Int :=
 if n = 97 then (spn 65 90 ||| spn 97 122, 0) else
 if n = 99 then (spn 0 31 ||| bt 127, 0) else
 if n = 100 then (spn 48 57, 0) else
 if n = 103 then (spn 33 126, 0) else
 if n = 108 then (spn 97 122, 0) else
 if n = 112 then (spn 33 126 &&& ~~~ (spn 65 90 ||| spn 97 122 ||| spn 48 57), 0) else
 if n = 115 then (spn 9 13 ||| bt 32, 0) else
 if n = 117 then (spn 65 90, 0) else
 if n = 119 then (spn 65 90 ||| spn 97 122 ||| spn 48 57, 0) else
 if n = 120 then (spn 48 57 ||| spn 65 70 ||| spn 97 102, 0) else
 (0#256, 10)
theorem sml97 : sml 97 = (spn 65 90 ||| spn 97 122, 0) := by unfold sml; rw [if_pos rfl]
theorem sml99 : sml 99 = (spn 0 31 ||| bt 127, 0) := by unfold sml; rw [if_neg (by omega), if_pos rfl]
theorem znX : sml 100 = (spn 48 57, 0) := by unfold sml; rw [if_neg (by omega), if_neg (by omega), if_pos rfl]
theorem znY : sml 103 = (spn 33 126, 0) := by unfold sml; rw [if_neg (by omega), if_neg (by omega), if_neg (by omega), if_pos rfl]
theorem znZ : sml 108 = (spn 97 122, 0) := by unfold sml; rw [if_neg (by omega), if_neg (by omega), if_neg (by omega), if_neg (by omega), if_pos rfl]
theorem zn0 : sml 112 = (spn 33 126 &&& ~~~ (spn 65 90 ||| spn 97 122 ||| spn 48 57), 0) := by unfold sml; rw [if_neg (by omega), if_neg (by omega), if_neg (by omega), if_neg (by omega), if_neg (by omega), if_pos rfl]
theorem zn1 : sml 115 = (spn 9 13 ||| bt 32, 0) := by unfold sml; rw [if_neg (by omega), if_neg (by omega), if_neg (by omega), if_neg (by omega), if_neg (by omega), if_neg (by omega), if_pos rfl]
theorem zn2 : sml 117 = (spn 65 90, 0) := by unfold sml; rw [if_neg (by omega), if_neg (by omega), if_neg (by omega), if_neg (by omega), if_neg (by omega), if_neg (by omega), if_neg (by omega), if_pos rfl]
theorem zn3 : sml 119 = (spn 65 90 ||| spn 97 122 ||| spn 48 57, 0) := by unfold sml; rw [if_neg (by omega), if_neg (by omega), if_neg (by omega), if_neg (by omega), if_neg (by omega), if_neg (by omega), if_neg (by omega), if_neg (by omega), if_pos rfl]
theorem zn4 : sml 120 = (spn 48 57 ||| spn 65 70 ||| spn 97 102, 0) := by unfold sml; rw [if_neg (by omega), if_neg (by omega), if_neg (by omega), if_neg (by omega), if_neg (by omega), if_neg (by omega), if_neg (by omega), if_neg (by omega), if_neg (by omega), if_pos rfl]
theorem zh6 (n : Nat) (h97 : n ≠ 97) (h99 : n ≠ 99) (h100 : n ≠ 100) (h103 : n ≠ 103) (h108 : n ≠ 108) (h112 : n ≠ 112) (h115 : n ≠ 115) (h117 : n ≠ 117) (h119 : n ≠ 119) (h120 : n ≠ 120) : sml n = (0#256, 10) := by unfold sml; rw [if_neg h97, if_neg h99, if_neg h100, if_neg h103, if_neg h108, if_neg h112, if_neg h115, if_neg h117, if_neg h119, if_neg h120]
def cls (n : Nat) : BitVec 256 × Int :=
 if 65 <= n /\ n <= 90 then (if (sml (n + 32)).2 = 0 then (~~~ (sml (n + 32)).1, 0) else (0#256, (sml (n + 32)).2)) else sml n
theorem zo1 (n : Nat) : (sml n).2 = 0 ∨ (sml n).2 = 10 := by
 by_cases h97 : n = 97
 ·rw [h97, sml97]; exact .inl rfl
 by_cases h99 : n = 99
 ·rw [h99, sml99]; exact .inl rfl
 by_cases h100 : n = 100
 ·rw [h100, znX]; exact .inl rfl
 by_cases h103 : n = 103
 ·rw [h103, znY]; exact .inl rfl
 by_cases h108 : n = 108
 ·rw [h108, znZ]; exact .inl rfl
 by_cases h112 : n = 112
 ·rw [h112, zn0]; exact .inl rfl
 by_cases h115 : n = 115
 ·rw [h115, zn1]; exact .inl rfl
 by_cases h117 : n = 117
 ·rw [h117, zn2]; exact .inl rfl
 by_cases h119 : n = 119
 ·rw [h119, zn3]; exact .inl rfl
 by_cases h120 : n = 120
 ·rw [h120, zn4]; exact .inl rfl
 rw [zh6 n h97 h99 h100 h103 h108 h112 h115 h117 h119 h120]; exact .inr rfl
def chr (s : ByteArray) (i : Nat) : Int := if h : i < s.size then (s[i].toNat : Int) else -1
theorem zai {s : ByteArray} {i : Nat} (h : i < s.size) : chr s i = (s[i].toNat : Int) := by unfold chr; rw [dif_pos h]
theorem zas {s : ByteArray} {i : Nat} (h : ¬ i < s.size) : chr s i = -1 := by unfold chr; rw [dif_neg h]
theorem zdf (s : ByteArray) (i : Nat) : -1 <= chr s i /\ chr s i <= 255 := by
 unfold chr
 split
 ·have := s[i].toNat_lt; omega
 ·omega
theorem zaD {s : ByteArray} {i : Nat} (h : 0 <= chr s i) : i < s.size := by
 by_cases hi : i < s.size
 ·exact hi
 ·rw [zas hi] at h; omega
def zbj (c : Int) : Int := if 48 <= c /\ c <= 57 then c - 48 else if 97 <= c /\ c <= 102 then c - 87 else -1
def za3 (s : ByteArray) (i : Nat) : Option (Nat × Nat) :=
 if 0 <= zbj (chr s (i + 2)) /\ 0 <= zbj (chr s (i + 3)) then some ((16 * zbj (chr s (i + 2)) + zbj (chr s (i + 3))).toNat, i + 4) else none
def zan (s : ByteArray) (i : Nat) : Option (Nat × Nat) :=
 if chr s (i + 1) = 110 then some (10, i + 2) else if chr s (i + 1) = 114 then some (13, i + 2) else if chr s (i + 1) = 116 then some (9, i + 2) else
 if chr s (i + 1) = 120 then za3 s i else if zbc (chr s (i + 1)) then some ((chr s (i + 1)).toNat, i + 2) else none
def zap (s : ByteArray) (i : Nat) : Option (Nat × Nat) :=
 if chr s i = 92 then zan s i else if chr s i = 93 ∨ chr s i = 45 ∨ chr s i = 37 ∨ zjO (chr s i) = false then none else some ((chr s i).toNat, i + 1)
abbrev Rd (α : Type) := Sum α (Nat × Int)
def za6 (s : ByteArray) (i : Nat) : Rd (BitVec 256 × Nat) :=
 if i + 1 < s.size /\ (cls (chr s (i + 1)).toNat).2 = 0 then .inl ((cls (chr s (i + 1)).toNat).1, i + 2) else .inr (i, 10)
def zad (s : ByteArray) (i : Nat) : Rd (BitVec 256 × Nat) :=
 if chr s i = 37 then za6 s i else
 match zap s i with
 | none => .inr (i, 6)
 | some (lo, n) =>
  if chr s n = 45 then
   match zap s (n + 1) with
   | none => .inr ((n + 1), 6)
   | some (hi, e) => if hi < lo then .inr (i, 1) else .inl (spn lo hi, e)
  else .inl (spn lo lo, n)
def zab (s : ByteArray) : Nat -> BitVec 256 -> Nat -> Rd (BitVec 256 × Nat)
 | 0, _, i => .inr (i, 6)
 | f + 1, x, i =>
  if chr s i = 93 then .inl (x, i) else
  match zad s i with
  | .inr (a, c) => .inr (a, c)
  | .inl (y, n) => zab s f (x ||| y) n
theorem zbJ (c : Int) : -1 <= zbj c /\ zbj c <= 15 := by unfold zbj; split; omega; split <;> omega
theorem zmc {s : ByteArray} {i : Nat} (h : 0 <= zbj (chr s i)) : i < s.size := by
 by_cases hi : i < s.size
 ·exact hi
 ·rw [zas hi] at h; simp [zbj] at h
theorem zfy {s : ByteArray} {i b n : Nat} (h : za3 s i = some (b, n)) : b < 256 /\ i < n /\ n <= s.size := by
 unfold za3 at h
 split at h
 ·rename_i hh
  have h1 := zbJ (chr s (i + 2)); have h2 := zbJ (chr s (i + 3)); have h3 := zmc hh.2
  simp at h; omega
 ·simp at h
theorem zfz {s : ByteArray} {i b n : Nat} (h : zan s i = some (b, n)) : b < 256 /\ i < n /\ n <= s.size := by
 unfold zan at h
 have hc := zdf s (i + 1)
 by_cases hi : i + 1 < s.size
 ·split at h; (simp at h; omega)
  split at h; (simp at h; omega)
  split at h; (simp at h; omega)
  split at h; (exact zfy h)
  split at h
  ·simp at h; omega
  ·simp at h
 ·rw [zas hi] at h; simp [zbc] at h
theorem zbd {s : ByteArray} {i b n : Nat} (h : zap s i = some (b, n)) : b < 256 /\ i < n /\ n <= s.size := by
 unfold zap at h
 split at h
 ·exact zfz h
 ·split at h
  ·simp at h
  ·rename_i h1
   have hc := zdf s i
   have hi : i < s.size := by
    by_cases hi : i < s.size
    ·exact hi
    ·rw [zas hi] at h1; simp [zjO] at h1
   simp at h; omega
theorem zbU {s : ByteArray} {i n : Nat} {y : BitVec 256} (h : zad s i = .inl (y, n)) : i < n /\ n <= s.size := by
 unfold zad at h
 split at h
 ·unfold za6 at h
  split at h
  ·simp at h; omega
  ·simp at h
 ·split at h
  ·simp at h
  ·rename_i lo m hm
   have b1 := zbd hm
   split at h
   ·split at h
    ·simp at h
    ·rename_i hi e he
     have b2 := zbd he
     split at h
     ·simp at h
     ·simp at h; omega
   ·simp at h; omega
def dgB (c : Int) : Bool := decide (48 <= c) && decide (c <= 57)
def hdB (c : Int) : Bool := (decide (97 <= c) && decide (c <= 122)) || (decide (65 <= c) && decide (c <= 90)) || c == 95
def nmB (c : Int) : Bool := hdB c || dgB c
def spGo (P : Int -> Bool) (s : ByteArray) : Nat -> Nat -> Nat
 | 0, i => i
 | m + 1, i => if P (chr s i) then spGo P s m (i + 1) else i
def spN (P : Int -> Bool) (s : ByteArray) (i : Nat) : Nat := spGo P s (s.size - i) i
theorem zb7 {P : Int -> Bool} {s : ByteArray} {i : Nat} (h : P (chr s i) = false) : spN P s i = i := by
 unfold spN
 cases s.size - i with
 | zero => rfl
 | succ m => rw [spGo, h]; rfl
theorem zbr {P : Int -> Bool} {s : ByteArray} {i : Nat} (hn : P (-1) = false) (h : P (chr s i) = true) : i < s.size /\ spN P s i = spN P s (i + 1) := by
 have hi : i < s.size := by
  by_cases q : i < s.size
  ·exact q
  ·rw [zas (by omega), hn] at h; cases h
 refine ⟨hi, ?_⟩
 unfold spN
 rw [show s.size - i = (s.size - (i + 1)) + 1 from by omega, spGo, h]
 rfl
theorem za8 (P : Int -> Bool) (s : ByteArray) (hn : P (-1) = false) : ∀ d i, s.size - i = d -> i <= spN P s i /\ (i <= s.size -> spN P s i <= s.size) /\ P (chr s (spN P s i)) = false /\ ∀ k, i <= k -> k < spN P s i -> P (chr s k) = true := by
 intro d
 induction d with
 | zero =>
  intro i hi
  have h : P (chr s i) = false := by rw [zas (by omega)]; exact hn
  rw [zb7 h]
  exact ⟨Nat.le_refl _, fun q => q, h, fun k h1 h2 => by omega⟩
 | succ d ih =>
  intro i hi
  cases h : P (chr s i) with
  | false => rw [zb7 h]; exact ⟨Nat.le_refl _, fun q => q, h, fun k h1 h2 => by omega⟩
  | true =>
   obtain ⟨h1, h2⟩ := zbr hn h
   obtain ⟨i1, i2, i3, i4⟩ := ih (i + 1) (by omega)
   rw [h2]
   refine ⟨by omega, fun _ => i2 (by omega), i3, fun k k1 k2 => ?_⟩
   by_cases e : k = i
   ·subst e; exact h
   ·exact i4 k (by omega) k2
theorem zbs (P : Int -> Bool) (s : ByteArray) (hn : P (-1) = false) (i : Nat) : i <= spN P s i := (za8 P s hn _ i rfl).1
theorem zbV (P : Int -> Bool) (s : ByteArray) (hn : P (-1) = false) (i : Nat) (h : i <= s.size) : spN P s i <= s.size := (za8 P s hn _ i rfl).2.1 h
def zbn (s : ByteArray) (i : Nat) (base : Int) : Nat -> Int
 | 0 => 0
 | k + 1 => zbn s i base k * base + zbj (chr s (i + k))
theorem zo2 (s : ByteArray) (i : Nat) (base : Int) (hb : 0 <= base /\ base <= 16) : ∀ k, -(16 ^ k : Int) <= zbn s i base k - 1 /\ zbn s i base k + 1 <= (16 ^ k : Int) := by
 intro k
 induction k with
 | zero => simp [zbn]
 | succ k ih =>
  have h := zbJ (chr s (i + k))
  have h16 : (16 : Int) ^ (k + 1) = 16 ^ k * 16 := by rw [Int.pow_succ]
  rw [zbn, h16]
  generalize zbn s i base k = x at *
  generalize (16 : Int) ^ k = p at *
  have hp : (1 : Int) <= p := by omega
  constructor
  ·by_cases hx : 0 <= x
   ·have : 0 <= x * base := Int.mul_nonneg hx hb.1
    omega
   ·have h1 : x * base ≥ x * 16 := by
     have : (-x) * base <= (-x) * 16 := Int.mul_le_mul_of_nonneg_left hb.2 (by omega)
     rw [Int.neg_mul, Int.neg_mul] at this
     omega
    omega
  ·by_cases hx : 0 <= x
   ·have h1 : x * base <= x * 16 := Int.mul_le_mul_of_nonneg_left hb.2 hx
    omega
   ·have h1 : x * base <= 0 := by
     have : 0 <= (-x) * base := Int.mul_nonneg (by omega) hb.1
     rw [Int.neg_mul] at this
     omega
    omega
theorem zed {s : ByteArray} {a b k : Nat} (h : a + k < b) (hb : b <= s.size) : chr (s.extract a b) k = chr s (a + k) := by
 have h1 : k < (s.extract a b).size := by rw [ByteArray.size_extract]; omega
 rw [zai h1, zai (show a + k < s.size by omega)]
 congr 2
 exact ByteArray.getElem_extract h1
theorem zfA {s : ByteArray} {a b : Nat} {base : Int} (hb : b <= s.size) : ∀ k, a + k <= b -> zbn (s.extract a b) 0 base k = zbn s a base k := by
 intro k
 induction k with
 | zero => intro _; rfl
 | succ k ih =>
  intro h
  rw [zbn, zbn, ih (by omega), Nat.zero_add, zed (by omega) hb]
def zdd (s : ByteArray) (i : Nat) (most : Int) : Sum Int Int :=
 if spN dgB s i - i = 0 ∨ (1 < spN dgB s i - i /\ chr s i = 48) then .inr 50
 else if 6 < spN dgB s i - i ∨ most < zbn s i 10 (spN dgB s i - i) then .inr 1
 else .inl (zbn s i 10 (spN dgB s i - i))
structure Tk where
 kd : Int
 nn : Int
 fr : Int
 en : Int
 tx : ByteArray
 s0 : Int
 s1 : Int
 s2 : Int
 s3 : Int
abbrev tkG (t : Tk) : Value := .agg #[.int .i64 t.kd, .int .i64 t.nn, .int .i64 t.fr, .int .i64 t.en, .string t.tx, .int .u64 t.s0, .int .u64 t.s1, .int .u64 t.s2, .int .u64 t.s3]
def tk0 : Tk := ⟨0, 0, 0, 0, ⟨#[]⟩, 0, 0, 0, 0⟩
def zlW (s : ByteArray) (i : Nat) : Option (Nat × Nat) :=
 if chr s (i + 1) = 110 then some (10, i + 2) else if chr s (i + 1) = 114 then some (13, i + 2) else if chr s (i + 1) = 116 then some (9, i + 2)
 else if chr s (i + 1) = 92 ∨ chr s (i + 1) = 39 ∨ chr s (i + 1) = 34 then some ((chr s (i + 1)).toNat, i + 2)
 else if chr s (i + 1) = 120 /\ 0 <= zbj (chr s (i + 2)) /\ 0 <= zbj (chr s (i + 3)) then some ((16 * zbj (chr s (i + 2)) + zbj (chr s (i + 3))).toNat, i + 4)
 else none
def zbF (s : ByteArray) (q : Int) (b : Nat) : Nat -> List Int -> Nat -> Sum Tk (Nat × Int)
 | 0, _, _ => .inr (b, 52)
 | f + 1, out, i =>
  if chr s i < 0 then .inr (b, 52) else if chr s i = q then (if 255 < out.length then .inr (b, 2) else .inl ⟨2, 0, b, i + 1, zac out, 0, 0, 0, 0⟩)
  else if chr s i < 32 ∨ chr s i = 127 then .inr (i, 50) else if chr s i ≠ 92 then zbF s q b f (out ++ [chr s i]) (i + 1)
  else match zlW s i with
   | none => .inr (i, 51)
   | some (c, n) => zbF s q b f (out ++ [(c : Int)]) n
def zeU (s : ByteArray) (b : Nat) : Sum Tk (Nat × Int) := zbF s (chr s b) b (s.size + 1) [] (b + 1)
end Go.Proofs.YtnpifgcgjgddoaaGreatDoor
namespace Go.Proofs.YtnpifgcgjgddoaaGreatDoor.T
open Go.RowKit
def dgB (c : Int) : Bool := decide (48 <= c) && decide (c <= 57)
def ltB (c : Int) : Bool := (decide (97 <= c) && decide (c <= 122)) || (decide (65 <= c) && decide (c <= 90))
def nmC (c : Int) : Bool := dgB c || ltB c || c == 95
def NmP (s : ByteArray) : Prop := 0 < s.size /\ s.size <= 32 /\ (∀ h : 0 < s.size, dgB (s[0].toNat : Int) = false) /\ ∀ (j : Nat) (h : j < s.size), nmC (s[j].toNat : Int) = true
def zmd (s:ByteArray):Decidable (NmP s):=by unfold NmP;exact inferInstance
def nmB (s:ByteArray):Bool:=@decide (NmP s) (zmd s)
theorem nmB_t {s : ByteArray} (h : NmP s) : nmB s = true := by unfold nmB; exact @decide_eq_true _ (zmd _) h
theorem zjQ {s : ByteArray} (h : ¬ NmP s) : nmB s = false := by unfold nmB; exact @decide_eq_false _ (zmd _) h
def zfe (s : ByteArray) : Nat -> Nat -> Bool
 | 0, _ => true
 | m + 1, i => if h : i < s.size then (if (s[i].toNat : Int) = 37 then (if h2 : i + 1 < s.size then (if (s[i + 1].toNat : Int) = 37 ∨ dgB (s[i + 1].toNat : Int) = true then zfe s m (i + 2) else false) else false) else zfe s m (i + 1)) else true
def tmB (s : ByteArray) : Bool := if s.size <= 255 then zfe s s.size 0 else false
structure Nd where
 op : Int
 nn : Int
 tx : ByteArray
 s0 : Int
 s1 : Int
 s2 : Int
 s3 : Int
def ar (op : Int) : Int := if op < 1 ∨ 23 < op then -1 else if op <= 6 ∨ op = 17 then 0 else if op = 7 ∨ op = 8 then 2 else 1
theorem ar_hi (op : Int) : ar op <= 2 := by
 unfold ar; split
 ·omega
 ·split
  ·omega
  ·split <;> omega
def txF (op : Int) (tx : ByteArray) : Bool := if op = 4 then decide (1 <= tx.size /\ tx.size <= 255) else if op = 6 then nmB tx else if op = 19 then decide (tx.size = 0) || nmB tx else if op = 22 then tmB tx else decide (tx.size = 0)
def nuF (op nn : Int) : Bool := if op = 14 ∨ op = 15 ∨ op = 16 ∨ op = 23 then decide (0 <= nn /\ nn <= 50) else decide (nn = 0)
def seF (op a b c d : Int) : Bool := if op = 5 then true else decide (a = 0 /\ b = 0 /\ c = 0 /\ d = 0)
def fdF (n : Nd) : Bool := txF n.op n.tx && nuF n.op n.nn && seF n.op n.s0 n.s1 n.s2 n.s3
def alE (n : Nd) : Int := if ar n.op < 0 then 40 else if fdF n then 0 else 41
abbrev ndG (n : Nd) : Value := .agg #[.int .i64 n.op, .int .i64 n.nn, .string n.tx, .int .u64 n.s0, .int .u64 n.s1, .int .u64 n.s2, .int .u64 n.s3]
def ndV (n : Nd) : List Value := [.int .i64 n.op, .int .i64 n.nn, .string n.tx, .int .u64 n.s0, .int .u64 n.s1, .int .u64 n.s2, .int .u64 n.s3]
def ndc (l : List Nd) : List Value := l.flatMap ndV
theorem zdz (a b : List Nd) : ndc (a ++ b) = ndc a ++ ndc b := List.flatMap_append
theorem zee (n : Nd) : ndc [n] = ndV n := by unfold ndc; rw [List.flatMap_cons, List.flatMap_nil, List.append_nil]
theorem zhj (l : List Nd) : (ndc l).length = l.length * 7 := by
 induction l with
 | nil => rfl
 | cons a l ih => show (ndV a ++ ndc l).length = _; rw [List.length_append, ih, List.length_cons]; show 7 + _ = _; omega
theorem zeV {s : ByteArray} (h : s.size = 0) : s.toList.isEmpty = true := by
 obtain ⟨d⟩ := s
 have h2 : d.size = 0 := h
 rw [ByteArray.toList_eq, Array.eq_empty_of_size_eq_zero h2]; rfl
theorem zef {s : ByteArray} (h : ¬ s.size = 0) : s.toList.isEmpty = false := by
 obtain ⟨d⟩ := s
 have h2 : ¬ d.toList.length = 0 := h
 rw [ByteArray.toList_eq]
 show d.toList.isEmpty = false
 cases hd : d.toList with
 | nil => rw [hd] at h2; exact absurd rfl h2
 | cons a b => rfl
theorem zaZ {a b : Bool} (h : a = b) : Ending.returned (.bool a) = .returned (.bool b) := by rw [h]
end Go.Proofs.YtnpifgcgjgddoaaGreatDoor.T
namespace Go.Proofs.YtnpifgcgjgddoaaGreatDoor.N
open Go.RowKit
abbrev Nd := T.Nd
def nd0 (op : Int) : Nd := ⟨op, 0, ⟨#[]⟩, 0, 0, 0, 0⟩
structure PE where
 l : List Tk
 rn : Int -> Int -> List Nd
 tm : ByteArray -> Bool
def kdA (E : PE) (i : Nat) : Int := match E.l[i]? with
 | some t => t.kd
 | none => 0
def tkA (E : PE) (i : Nat) : Tk := (E.l[i]?).getD tk0
def bgK (k : Int) : Bool := k == 8 || k == 9 || k == 2 || k == 3 || k == 28 || k == 5 || k == 18 || k == 29 || k == 30 || k == 16 || k == 19 || k == 21 || k == 23 || k == 25
def bgn (E : PE) (i : Nat) : Bool := bgK (kdA E i) || (kdA E i == 1 && !(kdA E (i + 1) == 6))
abbrev PR := Sum (Nat × List Nd) (Nat × Int)
def bnd (r : PR) (f : Nat -> List Nd -> PR) : PR := match r with
 | .inl p => f p.1 p.2
 | .inr q => .inr q
def ahd (ns : List Nd) (r : PR) : PR := match r with
 | .inl p => .inl (p.1, ns ++ p.2)
 | .inr q => .inr q
def zi2 (tm : ByteArray -> Bool) (t u : Tk) (k k2 : Int) : Sum (Nd × Nat) (Option Int) :=
  if k = 10 then .inl (nd0 11, 1) else if k = 11 then .inl (nd0 9, 1) else if k = 12 then .inl (nd0 10, 1)
  else if k = 13 then .inl (⟨14, t.nn, ⟨#[]⟩, 0, 0, 0, 0⟩, 1) else if k = 14 then .inl (⟨15, t.nn, ⟨#[]⟩, 0, 0, 0, 0⟩, 1)
  else if k = 15 then .inl (⟨16, t.nn, ⟨#[]⟩, 0, 0, 0, 0⟩, 1)
  else if k = 27 then
    (if k2 = 2 then (if tm u.tx then .inl (⟨22, 0, u.tx, 0, 0, 0, 0⟩, 2) else .inr (some 61))
     else if k2 = 4 then (if 50 < u.nn then .inr (some 1) else .inl (⟨23, u.nn, ⟨#[]⟩, 0, 0, 0, 0⟩, 2))
     else .inr (some 60))
  else .inr none
def zfB (E : PE) (i : Nat) : Sum (Nd × Nat) (Option Int) := zi2 E.tm (tkA E i) (tkA E (i + 1)) (kdA E i) (kdA E (i + 1))
def zbW (rn : Int -> Int -> List Nd) (t : Tk) (k2 : Int) : Sum (List Nd × Nat) (Int × List Nd) :=
 if t.kd = 2 then .inl (if t.tx.size = 0 then [nd0 1] else [⟨4, 0, t.tx, 0, 0, 0, 0⟩], 1)
 else if t.kd = 3 ∨ t.kd = 28 then .inl ([⟨5, 0, ⟨#[]⟩, t.s0, t.s1, t.s2, t.s3⟩], 1)
 else if t.kd = 5 then .inl (rn t.nn t.s0, 1)
 else if t.kd = 18 then .inl ([nd0 3], 1) else if t.kd = 29 then .inl ([nd0 1], 1) else if t.kd = 30 then .inl ([nd0 2], 1)
 else if t.kd = 1 then .inl ([⟨6, 0, t.tx, 0, 0, 0, 0⟩], 1)
 else if t.kd = 16 then .inr (17, [])
 else if t.kd = 19 then (if k2 = 20 then .inl ([nd0 17], 2) else .inr (20, [nd0 18]))
 else if t.kd = 21 then .inr (22, [⟨19, 0, t.tx, 0, 0, 0, 0⟩])
 else if t.kd = 23 then .inr (24, [nd0 20]) else .inr (26, [nd0 21])
def zbt (E : PE) (i : Nat) : Sum (List Nd × Nat) (Int × List Nd) := zbW E.rn (tkA E i) (kdA E (i + 1))
def PF (E : PE) : Nat -> Nat -> Nat -> Nat -> PR
  | 0, _, _, _ => .inr (0, -1)
  | f + 1, m, i, d =>
    if m = 0 then bnd (PF E f 2 i d) fun a ns => ahd ns (PF E f 1 a d)
    else if m = 1 then (if kdA E i = 7 then bnd (PF E f 2 (i + 1) d) fun a ns => ahd (ns ++ [nd0 8]) (PF E f 1 a d) else .inl (i, []))
    else if m = 2 then bnd (PF E f 4 i d) fun a ns => ahd ns (PF E f 3 a d)
    else if m = 3 then (if bgn E i = true then bnd (PF E f 4 i d) fun a ns => ahd (ns ++ [nd0 7]) (PF E f 3 a d) else .inl (i, []))
    else if m = 4 then
      (if bgn E i = true then
        (if kdA E i = 8 ∨ kdA E i = 9 then (if 240 <= d then .inr (i, 4) else bnd (PF E f 4 (i + 1) (d + 1)) fun a ns => .inl (a, ns ++ [nd0 (if kdA E i = 8 then 12 else 13)]))
         else bnd (PF E f 5 i d) fun a ns => ahd ns (PF E f 6 a d))
       else .inr (i, 60))
    else if m = 5 then
      (match zbt E i with
       | .inl p => .inl (i + p.2, p.1)
       | .inr p => if 240 <= d then .inr (i, 4) else bnd (PF E f 0 (i + 1) (d + 1)) fun a ms => if kdA E a = p.1 then .inl (a + 1, ms ++ p.2) else .inr (a, 60))
    else (match zfB E i with
       | .inr none => .inl (i, [])
       | .inr (some c) => .inr (i + 1, c)
       | .inl p => ahd [p.1] (PF E f 6 (i + p.2) d))
theorem zbl {E : PE} {i : Nat} (h : ¬ kdA E i = 0) : i < E.l.length := by
 unfold kdA at h
 by_cases q : i < E.l.length
 ·exact q
 ·rw [List.getElem?_eq_none (by omega)] at h; exact absurd rfl h
theorem zcD {E : PE} {i : Nat} (h : bgn E i = true) : i < E.l.length := by
 apply zbl
 intro q
 unfold bgn bgK at h
 rw [q] at h
 simp at h
theorem zau {r : PR} {f : Nat -> List Nd -> PR} {x : Nat × List Nd} (h : bnd r f = .inl x) : ∃ a ns, r = .inl (a, ns) /\ f a ns = .inl x := by
 cases r with
 | inl p => exact ⟨p.1, p.2, rfl, h⟩
 | inr q => cases h
theorem zaF {ns : List Nd} {r : PR} {x : Nat × List Nd} (h : ahd ns r = .inl x) : ∃ ms, r = .inl (x.1, ms) /\ x.2 = ns ++ ms := by
 cases r with
 | inl p => cases h; exact ⟨p.2, rfl, rfl⟩
 | inr q => cases h
theorem sufK_n {tm : ByteArray -> Bool} {t u : Tk} {k k2 : Int} {p : Nd × Nat} (h : zi2 tm t u k k2 = .inl p) : (p.2 = 1 /\ ¬ k = 0) ∨ (p.2 = 2 /\ ¬ k2 = 0) := by
 unfold zi2 at h
 by_cases h0 : k = 10
 ·rw [if_pos h0] at h; cases h; exact .inl ⟨rfl, by omega⟩
 rw [if_neg h0] at h
 by_cases h1 : k = 11
 ·rw [if_pos h1] at h; cases h; exact .inl ⟨rfl, by omega⟩
 rw [if_neg h1] at h
 by_cases h2 : k = 12
 ·rw [if_pos h2] at h; cases h; exact .inl ⟨rfl, by omega⟩
 rw [if_neg h2] at h
 by_cases h3 : k = 13
 ·rw [if_pos h3] at h; cases h; exact .inl ⟨rfl, by omega⟩
 rw [if_neg h3] at h
 by_cases h4 : k = 14
 ·rw [if_pos h4] at h; cases h; exact .inl ⟨rfl, by omega⟩
 rw [if_neg h4] at h
 by_cases h5 : k = 15
 ·rw [if_pos h5] at h; cases h; exact .inl ⟨rfl, by omega⟩
 rw [if_neg h5] at h
 by_cases h7 : k = 27
 ·rw [if_pos h7] at h
  by_cases h8 : k2 = 2
  ·rw [if_pos h8] at h
   split at h
   ·cases h; exact .inr ⟨rfl, by omega⟩
   ·cases h
  ·rw [if_neg h8] at h
   by_cases h9 : k2 = 4
   ·rw [if_pos h9] at h
    split at h
    ·cases h
    ·cases h; exact .inr ⟨rfl, by omega⟩
   ·rw [if_neg h9] at h; cases h
 ·rw [if_neg h7] at h; cases h
theorem zgo {E : PE} {i : Nat} {p : Nd × Nat} (h : zfB E i = .inl p) : 0 < p.2 /\ i + p.2 <= E.l.length := by
 rcases sufK_n h with ⟨h1, h2⟩ | ⟨h1, h2⟩
 ·have := zbl h2; omega
 ·have := zbl h2; omega
theorem zo3 {rn : Int -> Int -> List Nd} {t : Tk} {k2 : Int} {p : List Nd × Nat} (h : zbW rn t k2 = .inl p) : p.2 = 1 ∨ (p.2 = 2 /\ k2 = 20) := by
 unfold zbW at h
 by_cases c0 : t.kd = 2
 ·rw [if_pos c0] at h
  cases h; exact .inl rfl
 rw [if_neg c0] at h
 by_cases c1 : t.kd = 3 ∨ t.kd = 28
 ·rw [if_pos c1] at h
  cases h; exact .inl rfl
 rw [if_neg c1] at h
 by_cases c2 : t.kd = 5
 ·rw [if_pos c2] at h
  cases h; exact .inl rfl
 rw [if_neg c2] at h
 by_cases c3 : t.kd = 18
 ·rw [if_pos c3] at h
  cases h; exact .inl rfl
 rw [if_neg c3] at h
 by_cases c4 : t.kd = 29
 ·rw [if_pos c4] at h
  cases h; exact .inl rfl
 rw [if_neg c4] at h
 by_cases c5 : t.kd = 30
 ·rw [if_pos c5] at h
  cases h; exact .inl rfl
 rw [if_neg c5] at h
 by_cases c6 : t.kd = 1
 ·rw [if_pos c6] at h
  cases h; exact .inl rfl
 rw [if_neg c6] at h
 by_cases c7 : t.kd = 16
 ·rw [if_pos c7] at h
  cases h
 rw [if_neg c7] at h
 by_cases c8 : t.kd = 19
 ·rw [if_pos c8] at h
  by_cases d : k2 = 20
  ·rw [if_pos d] at h
   cases h; exact .inr ⟨rfl, d⟩
  ·rw [if_neg d] at h
   cases h
 rw [if_neg c8] at h
 by_cases c9 : t.kd = 21
 ·rw [if_pos c9] at h
  cases h
 rw [if_neg c9] at h
 by_cases c10 : t.kd = 23
 ·rw [if_pos c10] at h
  cases h
 rw [if_neg c10] at h
 cases h
theorem zo4 {rn : Int -> Int -> List Nd} {t : Tk} {k2 : Int} {p : Int × List Nd} (h : zbW rn t k2 = .inr p) : p.1 = 17 ∨ p.1 = 20 ∨ p.1 = 22 ∨ p.1 = 24 ∨ p.1 = 26 := by
 unfold zbW at h
 by_cases c0 : t.kd = 2
 ·rw [if_pos c0] at h
  cases h
 rw [if_neg c0] at h
 by_cases c1 : t.kd = 3 ∨ t.kd = 28
 ·rw [if_pos c1] at h
  cases h
 rw [if_neg c1] at h
 by_cases c2 : t.kd = 5
 ·rw [if_pos c2] at h
  cases h
 rw [if_neg c2] at h
 by_cases c3 : t.kd = 18
 ·rw [if_pos c3] at h
  cases h
 rw [if_neg c3] at h
 by_cases c4 : t.kd = 29
 ·rw [if_pos c4] at h
  cases h
 rw [if_neg c4] at h
 by_cases c5 : t.kd = 30
 ·rw [if_pos c5] at h
  cases h
 rw [if_neg c5] at h
 by_cases c6 : t.kd = 1
 ·rw [if_pos c6] at h
  cases h
 rw [if_neg c6] at h
 by_cases c7 : t.kd = 16
 ·rw [if_pos c7] at h
  cases h; simp
 rw [if_neg c7] at h
 by_cases c8 : t.kd = 19
 ·rw [if_pos c8] at h
  by_cases d : k2 = 20
  ·rw [if_pos d] at h
   cases h
  ·rw [if_neg d] at h
   cases h; simp
 rw [if_neg c8] at h
 by_cases c9 : t.kd = 21
 ·rw [if_pos c9] at h
  cases h; simp
 rw [if_neg c9] at h
 by_cases c10 : t.kd = 23
 ·rw [if_pos c10] at h
  cases h; simp
 rw [if_neg c10] at h
 cases h; simp
theorem zjR {E : PE} {i : Nat} {p : List Nd × Nat} (hi : i < E.l.length) (h : zbt E i = .inl p) : 0 < p.2 /\ i + p.2 <= E.l.length := by
 rcases zo3 h with h1 | ⟨h1, h2⟩
 ·omega
 ·have := zbl (E := E) (i := i + 1) (by omega)
  omega
theorem zaL (E : PE) : ∀ (f m i d a : Nat) (ns : List Nd), i <= E.l.length -> (m = 5 -> i < E.l.length) -> PF E f m i d = .inl (a, ns) -> i <= a /\ a <= E.l.length /\ (m = 0 ∨ m = 2 ∨ m = 4 ∨ m = 5 -> i < a) := by
 intro f
 induction f with
 | zero => intro m i d a ns _ _ h; cases h
 | succ f ih =>
  intro m i d a ns hi h5 h
  rw [PF] at h
  by_cases m0 : m = 0
  ·rw [if_pos m0] at h
   obtain ⟨a1, n1, r1, h⟩ := zau h
   obtain ⟨n2, r2, _⟩ := zaF h
   obtain ⟨x1, x2, x3⟩ := ih _ _ _ _ _ hi (by omega) r1
   obtain ⟨y1, y2, _⟩ := ih _ _ _ _ _ x2 (by omega) r2
   have := x3 (by omega)
   dsimp only at y1 y2
   exact ⟨by omega, y2, fun _ => by omega⟩
  rw [if_neg m0] at h
  by_cases m1 : m = 1
  ·rw [if_pos m1] at h
   by_cases k7 : kdA E i = 7
   ·have hlt := zbl (E := E) (i := i) (by omega)
    rw [if_pos k7] at h
    obtain ⟨a1, n1, r1, h⟩ := zau h
    obtain ⟨n2, r2, _⟩ := zaF h
    obtain ⟨x1, x2, x3⟩ := ih _ _ _ _ _ (by omega) (by omega) r1
    obtain ⟨y1, y2, _⟩ := ih _ _ _ _ _ x2 (by omega) r2
    dsimp only at y1 y2
    exact ⟨by omega, y2, fun q => by omega⟩
   ·rw [if_neg k7] at h
    cases h
    exact ⟨Nat.le_refl _, hi, fun q => by omega⟩
  rw [if_neg m1] at h
  by_cases m2 : m = 2
  ·rw [if_pos m2] at h
   obtain ⟨a1, n1, r1, h⟩ := zau h
   obtain ⟨n2, r2, _⟩ := zaF h
   obtain ⟨x1, x2, x3⟩ := ih _ _ _ _ _ hi (by omega) r1
   obtain ⟨y1, y2, _⟩ := ih _ _ _ _ _ x2 (by omega) r2
   have := x3 (by omega)
   dsimp only at y1 y2
   exact ⟨by omega, y2, fun _ => by omega⟩
  rw [if_neg m2] at h
  by_cases m3 : m = 3
  ·rw [if_pos m3] at h
   by_cases kb : bgn E i = true
   ·have hlt := zcD kb
    rw [if_pos kb] at h
    obtain ⟨a1, n1, r1, h⟩ := zau h
    obtain ⟨n2, r2, _⟩ := zaF h
    obtain ⟨x1, x2, x3⟩ := ih _ _ _ _ _ (by omega) (by omega) r1
    obtain ⟨y1, y2, _⟩ := ih _ _ _ _ _ x2 (by omega) r2
    dsimp only at y1 y2
    exact ⟨by omega, y2, fun q => by omega⟩
   ·rw [if_neg kb] at h
    cases h
    exact ⟨Nat.le_refl _, hi, fun q => by omega⟩
  rw [if_neg m3] at h
  by_cases m4 : m = 4
  ·rw [if_pos m4] at h
   by_cases kb : bgn E i = true
   ·have hlt := zcD kb
    rw [if_pos kb] at h
    by_cases k8 : kdA E i = 8 ∨ kdA E i = 9
    ·rw [if_pos k8] at h
     split at h
     ·cases h
     ·obtain ⟨a1, n1, r1, h⟩ := zau h
      cases h
      obtain ⟨x1, x2, x3⟩ := ih _ _ _ _ _ (by omega) (by omega) r1
      exact ⟨by omega, x2, fun _ => by omega⟩
    ·rw [if_neg k8] at h
     obtain ⟨a1, n1, r1, h⟩ := zau h
     obtain ⟨n2, r2, _⟩ := zaF h
     obtain ⟨x1, x2, x3⟩ := ih _ _ _ _ _ (by omega) (fun _ => hlt) r1
     obtain ⟨y1, y2, _⟩ := ih _ _ _ _ _ x2 (by omega) r2
     have := x3 (by omega)
     dsimp only at y1 y2
     exact ⟨by omega, y2, fun _ => by omega⟩
   ·rw [if_neg kb] at h; cases h
  rw [if_neg m4] at h
  by_cases m5 : m = 5
  ·rw [if_pos m5] at h
   have hlt := h5 m5
   cases hp : zbt E i with
   | inl p =>
    rw [hp] at h
    cases h
    have := zjR hlt hp
    exact ⟨by omega, this.2, fun _ => by omega⟩
   | inr p =>
    rw [hp] at h
    dsimp only at h
    split at h
    ·cases h
    ·obtain ⟨a1, n1, r1, h⟩ := zau h
     obtain ⟨x1, x2, x3⟩ := ih _ _ _ _ _ (by omega) (by omega) r1
     split at h
     ·next hk =>
      cases h
      have : a1 < E.l.length := by
       apply zbl
       intro q
       have hc := zo4 hp
       omega
      exact ⟨by omega, by omega, fun _ => by omega⟩
     ·cases h
  rw [if_neg m5] at h
  cases hs : zfB E i with
  | inl p =>
   rw [hs] at h
   obtain ⟨n2, r2, _⟩ := zaF h
   obtain ⟨q1, q2⟩ := zgo hs
   obtain ⟨y1, y2, _⟩ := ih _ _ _ _ _ q2 (fun q => by cases q) r2
   dsimp only at y1 y2
   exact ⟨by omega, y2, fun q => by omega⟩
  | inr o =>
   rw [hs] at h
   cases o with
   | none => cases h; exact ⟨Nat.le_refl _, hi, fun q => by omega⟩
   | some q => cases h
def rk (m : Nat) : Nat := if m = 0 then 4 else if m = 2 then 3 else if m = 3 then 3 else if m = 4 then 2 else if m = 5 then 1 else 0
def nee (E : PE) (m i : Nat) : Nat := 5 * (E.l.length - i) + rk m + 1
theorem zbX {r r' : PR} {F G : Nat -> List Nd -> PR} (h : r = r') (h2 : ∀ a ns, r = .inl (a, ns) -> F a ns = G a ns) : bnd r F = bnd r' G := by
 subst h
 cases r with
 | inl p => exact h2 p.1 p.2 rfl
 | inr q => rfl
theorem zn5 (m : Nat) (h0 : ¬ m = 0) (h2 : ¬ m = 2) (h3 : ¬ m = 3) (h4 : ¬ m = 4) (h5 : ¬ m = 5) : rk m = 0 := by
 unfold rk
 rw [if_neg h0, if_neg h2, if_neg h3, if_neg h4, if_neg h5]
theorem rk0 : rk 0 = 4 := rfl
theorem rk1 : rk 1 = 0 := rfl
theorem rk2 : rk 2 = 3 := rfl
theorem rk3 : rk 3 = 3 := rfl
theorem rk4 : rk 4 = 2 := rfl
theorem rk5 : rk 5 = 1 := rfl
theorem rk6 : rk 6 = 0 := rfl
theorem zo5 (E : PE) : ∀ (f g m i d : Nat), i <= E.l.length -> (m = 5 -> i < E.l.length) -> nee E m i <= f -> nee E m i <= g -> PF E f m i d = PF E g m i d := by
 intro f
 induction f with
 | zero => intro g m i d _ _ h; unfold nee at h; omega
 | succ f ih =>
  intro g m i d hi h5 hf hg
  cases g with
  | zero => unfold nee at hg; omega
  | succ g =>
   unfold nee at hf hg ih
   rw [PF, PF]
   by_cases m0 : m = 0
   ·subst m0
    rw [rk0] at hf hg
    rw [if_pos rfl, if_pos rfl]
    refine zbX (ih g 2 i d hi (by omega) (by rw [rk2]; omega) (by rw [rk2]; omega)) (fun a ns hr => ?_)
    obtain ⟨x1, x2, x3⟩ := zaL E _ _ _ _ _ _ hi (by omega) hr
    have := x3 (by omega)
    rw [ih g 1 a d x2 (by omega) (by rw [rk1]; omega) (by rw [rk1]; omega)]
   rw [if_neg m0, if_neg m0]
   by_cases m1 : m = 1
   ·subst m1
    rw [rk1] at hf hg
    rw [if_pos rfl, if_pos rfl]
    by_cases k7 : kdA E i = 7
    ·have hlt := zbl (E := E) (i := i) (by omega)
     rw [if_pos k7, if_pos k7]
     refine zbX (ih g 2 (i + 1) d (by omega) (by omega) (by rw [rk2]; omega) (by rw [rk2]; omega)) (fun a ns hr => ?_)
     obtain ⟨x1, x2, x3⟩ := zaL E _ _ _ _ _ _ (by omega) (by omega) hr
     rw [ih g 1 a d x2 (by omega) (by rw [rk1]; omega) (by rw [rk1]; omega)]
    ·rw [if_neg k7, if_neg k7]
   rw [if_neg m1, if_neg m1]
   by_cases m2 : m = 2
   ·subst m2
    rw [rk2] at hf hg
    rw [if_pos rfl, if_pos rfl]
    refine zbX (ih g 4 i d hi (by omega) (by rw [rk4]; omega) (by rw [rk4]; omega)) (fun a ns hr => ?_)
    obtain ⟨x1, x2, x3⟩ := zaL E _ _ _ _ _ _ hi (by omega) hr
    have := x3 (by omega)
    rw [ih g 3 a d x2 (by omega) (by rw [rk3]; omega) (by rw [rk3]; omega)]
   rw [if_neg m2, if_neg m2]
   by_cases m3 : m = 3
   ·subst m3
    rw [rk3] at hf hg
    rw [if_pos rfl, if_pos rfl]
    by_cases kb : bgn E i = true
    ·have hlt := zcD kb
     rw [if_pos kb, if_pos kb]
     refine zbX (ih g 4 i d (by omega) (by omega) (by rw [rk4]; omega) (by rw [rk4]; omega)) (fun a ns hr => ?_)
     obtain ⟨x1, x2, x3⟩ := zaL E _ _ _ _ _ _ (by omega) (by omega) hr
     have := x3 (by omega)
     rw [ih g 3 a d x2 (by omega) (by rw [rk3]; omega) (by rw [rk3]; omega)]
    ·rw [if_neg kb, if_neg kb]
   rw [if_neg m3, if_neg m3]
   by_cases m4 : m = 4
   ·subst m4
    rw [rk4] at hf hg
    rw [if_pos rfl, if_pos rfl]
    by_cases kb : bgn E i = true
    ·have hlt := zcD kb
     rw [if_pos kb, if_pos kb]
     by_cases k8 : kdA E i = 8 ∨ kdA E i = 9
     ·rw [if_pos k8, if_pos k8]
      by_cases hd : 240 <= d
      ·rw [if_pos hd, if_pos hd]
      ·rw [if_neg hd, if_neg hd]
       exact zbX (ih g 4 (i + 1) (d + 1) (by omega) (by omega) (by rw [rk4]; omega) (by rw [rk4]; omega)) (fun a ns hr => rfl)
     ·rw [if_neg k8, if_neg k8]
      refine zbX (ih g 5 i d (by omega) (fun _ => hlt) (by rw [rk5]; omega) (by rw [rk5]; omega)) (fun a ns hr => ?_)
      obtain ⟨x1, x2, x3⟩ := zaL E _ _ _ _ _ _ (by omega) (fun _ => hlt) hr
      have := x3 (by omega)
      rw [ih g 6 a d x2 (by omega) (by rw [rk6]; omega) (by rw [rk6]; omega)]
    ·rw [if_neg kb, if_neg kb]
   rw [if_neg m4, if_neg m4]
   by_cases m5 : m = 5
   ·have hlt := h5 m5
    subst m5
    rw [rk5] at hf hg
    rw [if_pos rfl, if_pos rfl]
    cases hp : zbt E i with
    | inl p => rfl
    | inr p =>
     dsimp only
     by_cases hd : 240 <= d
     ·rw [if_pos hd, if_pos hd]
     ·rw [if_neg hd, if_neg hd]
      exact zbX (ih g 0 (i + 1) (d + 1) (by omega) (by omega) (by rw [rk0]; omega) (by rw [rk0]; omega)) (fun a ns hr => rfl)
   rw [if_neg m5, if_neg m5]
   rw [zn5 m m0 m2 m3 m4 m5] at hf hg
   cases hs : zfB E i with
   | inl p =>
    obtain ⟨q1, q2⟩ := zgo hs
    dsimp only
    rw [ih g 6 (i + p.2) d q2 (by omega) (by rw [rk6]; omega) (by rw [rk6]; omega)]
   | inr o => cases o <;> rfl
theorem zn6 (E : PE) : kdA E E.l.length = 0 := by unfold kdA; rw [List.getElem?_eq_none (Nat.le_refl _)]
theorem zc4 {r : PR} {f : Nat -> List Nd -> PR} {q : Nat × Int} (h : bnd r f = .inr q) : r = .inr q ∨ ∃ a ns, r = .inl (a, ns) /\ f a ns = .inr q := by
 cases r with
 | inl p => exact .inr ⟨p.1, p.2, rfl, h⟩
 | inr p => exact .inl h
theorem zdA {ns : List Nd} {r : PR} {q : Nat × Int} (h : ahd ns r = .inr q) : r = .inr q := by
 cases r with
 | inl p => cases h
 | inr p => exact h
theorem sufK_e {tm : ByteArray -> Bool} {t u : Tk} {k k2 c : Int} (h : zi2 tm t u k k2 = .inr (some c)) : c = 60 ∨ c = 61 ∨ c = 1 := by
 unfold zi2 at h
 by_cases h0 : k = 10
 ·rw [if_pos h0] at h; cases h
 rw [if_neg h0] at h
 by_cases h1 : k = 11
 ·rw [if_pos h1] at h; cases h
 rw [if_neg h1] at h
 by_cases h2 : k = 12
 ·rw [if_pos h2] at h; cases h
 rw [if_neg h2] at h
 by_cases h3 : k = 13
 ·rw [if_pos h3] at h; cases h
 rw [if_neg h3] at h
 by_cases h4 : k = 14
 ·rw [if_pos h4] at h; cases h
 rw [if_neg h4] at h
 by_cases h5 : k = 15
 ·rw [if_pos h5] at h; cases h
 rw [if_neg h5] at h
 by_cases h7 : k = 27
 ·rw [if_pos h7] at h
  by_cases h8 : k2 = 2
  ·rw [if_pos h8] at h
   split at h
   ·cases h
   ·cases h; exact .inr (.inl rfl)
  ·rw [if_neg h8] at h
   by_cases h9 : k2 = 4
   ·rw [if_pos h9] at h
    split at h
    ·cases h; exact .inr (.inr rfl)
    ·cases h
   ·rw [if_neg h9] at h; cases h; exact .inl rfl
 ·rw [if_neg h7] at h; cases h
theorem zo6 {tm : ByteArray -> Bool} {t u : Tk} {k k2 c : Int} (h : zi2 tm t u k k2 = .inr (some c)) : k = 27 := by
 unfold zi2 at h
 by_cases h0 : k = 10
 ·rw [if_pos h0] at h; cases h
 rw [if_neg h0] at h
 by_cases h1 : k = 11
 ·rw [if_pos h1] at h; cases h
 rw [if_neg h1] at h
 by_cases h2 : k = 12
 ·rw [if_pos h2] at h; cases h
 rw [if_neg h2] at h
 by_cases h3 : k = 13
 ·rw [if_pos h3] at h; cases h
 rw [if_neg h3] at h
 by_cases h4 : k = 14
 ·rw [if_pos h4] at h; cases h
 rw [if_neg h4] at h
 by_cases h5 : k = 15
 ·rw [if_pos h5] at h; cases h
 rw [if_neg h5] at h
 by_cases h7 : k = 27
 ·exact h7
 ·rw [if_neg h7] at h; cases h
theorem PF_err (E : PE) : ∀ (f m i d : Nat) (q : Nat × Int), i <= E.l.length -> (m = 5 -> i < E.l.length) -> nee E m i <= f -> PF E f m i d = .inr q -> q.1 <= E.l.length /\ (q.2 = 60 ∨ q.2 = 61 ∨ q.2 = 4 ∨ q.2 = 1) := by
 intro f
 induction f with
 | zero => intro m i d q _ _ h; unfold nee at h; omega
 | succ f ih =>
  intro m i d q hi h5 hf hr
  rw [PF] at hr
  by_cases m0 : m = 0
  ·subst m0
   unfold nee at hf
   rw [rk0] at hf
   rw [if_pos rfl] at hr
   rcases zc4 hr with r1 | ⟨a1, n1, r1, hr⟩
   ·exact ih _ _ _ _ hi (by omega) (by unfold nee; rw [rk2]; omega) r1
   ·obtain ⟨x1, x2, x3⟩ := zaL E _ _ _ _ _ _ hi (by omega) r1
    exact ih _ _ _ _ x2 (by omega) (by unfold nee; rw [rk1]; have := x3 (by omega); omega) (zdA hr)
  rw [if_neg m0] at hr
  by_cases m1 : m = 1
  ·subst m1
   unfold nee at hf
   rw [rk1] at hf
   rw [if_pos rfl] at hr
   by_cases k7 : kdA E i = 7
   ·have hlt := zbl (E := E) (i := i) (by omega)
    rw [if_pos k7] at hr
    rcases zc4 hr with r1 | ⟨a1, n1, r1, hr⟩
    ·exact ih _ _ _ _ (by omega) (by omega) (by unfold nee; rw [rk2]; omega) r1
    ·obtain ⟨x1, x2, x3⟩ := zaL E _ _ _ _ _ _ (by omega) (by omega) r1
     exact ih _ _ _ _ x2 (by omega) (by unfold nee; rw [rk1]; have := x3 (by omega); omega) (zdA hr)
   ·rw [if_neg k7] at hr; cases hr
  rw [if_neg m1] at hr
  by_cases m2 : m = 2
  ·subst m2
   unfold nee at hf
   rw [rk2] at hf
   rw [if_pos rfl] at hr
   rcases zc4 hr with r1 | ⟨a1, n1, r1, hr⟩
   ·exact ih _ _ _ _ hi (by omega) (by unfold nee; rw [rk4]; omega) r1
   ·obtain ⟨x1, x2, x3⟩ := zaL E _ _ _ _ _ _ hi (by omega) r1
    exact ih _ _ _ _ x2 (by omega) (by unfold nee; rw [rk3]; have := x3 (by omega); omega) (zdA hr)
  rw [if_neg m2] at hr
  by_cases m3 : m = 3
  ·subst m3
   unfold nee at hf
   rw [rk3] at hf
   rw [if_pos rfl] at hr
   by_cases kb : bgn E i = true
   ·rw [if_pos kb] at hr
    rcases zc4 hr with r1 | ⟨a1, n1, r1, hr⟩
    ·exact ih _ _ _ _ hi (by omega) (by unfold nee; rw [rk4]; omega) r1
    ·obtain ⟨x1, x2, x3⟩ := zaL E _ _ _ _ _ _ hi (by omega) r1
     exact ih _ _ _ _ x2 (by omega) (by unfold nee; rw [rk3]; have := x3 (by omega); omega) (zdA hr)
   ·rw [if_neg kb] at hr; cases hr
  rw [if_neg m3] at hr
  by_cases m4 : m = 4
  ·subst m4
   unfold nee at hf
   rw [rk4] at hf
   rw [if_pos rfl] at hr
   by_cases kb : bgn E i = true
   ·have hlt := zcD kb
    rw [if_pos kb] at hr
    by_cases k8 : kdA E i = 8 ∨ kdA E i = 9
    ·rw [if_pos k8] at hr
     by_cases hd : 240 <= d
     ·rw [if_pos hd] at hr; cases hr; exact ⟨hi, by simp⟩
     ·rw [if_neg hd] at hr
      rcases zc4 hr with r1 | ⟨a1, n1, r1, hr⟩
      ·exact ih _ _ _ _ (by omega) (by omega) (by unfold nee; rw [rk4]; omega) r1
      ·cases hr
    ·rw [if_neg k8] at hr
     rcases zc4 hr with r1 | ⟨a1, n1, r1, hr⟩
     ·exact ih _ _ _ _ hi (fun _ => hlt) (by unfold nee; rw [rk5]; omega) r1
     ·obtain ⟨x1, x2, x3⟩ := zaL E _ _ _ _ _ _ hi (fun _ => hlt) r1
      exact ih _ _ _ _ x2 (by omega) (by unfold nee; rw [rk6]; have := x3 (by omega); omega) (zdA hr)
   ·rw [if_neg kb] at hr; cases hr; exact ⟨hi, by simp⟩
  rw [if_neg m4] at hr
  by_cases m5 : m = 5
  ·have hlt := h5 m5
   subst m5
   unfold nee at hf
   rw [rk5] at hf
   rw [if_pos rfl] at hr
   cases hp : zbt E i with
   | inl p => rw [hp] at hr; cases hr
   | inr p =>
    rw [hp] at hr
    dsimp only at hr
    by_cases hd : 240 <= d
    ·rw [if_pos hd] at hr; cases hr; exact ⟨hi, by simp⟩
    ·rw [if_neg hd] at hr
     rcases zc4 hr with r1 | ⟨a1, n1, r1, hr⟩
     ·exact ih _ _ _ _ (by omega) (by omega) (by unfold nee; rw [rk0]; omega) r1
     ·obtain ⟨x1, x2, x3⟩ := zaL E _ _ _ _ _ _ (by omega) (by omega) r1
      split at hr
      ·cases hr
      ·cases hr; exact ⟨x2, by simp⟩
  rw [if_neg m5] at hr
  unfold nee at hf
  rw [zn5 m m0 m2 m3 m4 m5] at hf
  cases hs : zfB E i with
  | inl p =>
   rw [hs] at hr
   obtain ⟨q1, q2⟩ := zgo hs
   exact ih _ _ _ _ q2 (fun q => by cases q) (by unfold nee; rw [rk6]; omega) (zdA hr)
  | inr o =>
   rw [hs] at hr
   cases o with
   | none => cases hr
   | some c =>
    have hc := sufK_e hs
    have hk : kdA E i = 27 := zo6 hs
    have := zbl (E := E) (i := i) (by omega)
    cases hr
    exact ⟨this, by dsimp only; omega⟩
def fue (E : PE) : Nat := 5 * E.l.length + 5
theorem zo7 (E : PE) (i : Nat) : nee E 0 i <= fue E := by
 unfold nee fue
 rw [rk0]
 omega
def exN (E : PE) (i : Nat) : PR := PF E (fue E) 0 i 0
theorem zgp {E : PE} {i a : Nat} {ns : List Nd} (hi : i <= E.l.length) (h : exN E i = .inl (a, ns)) : i < a /\ a <= E.l.length := by
 obtain ⟨_, h2, h3⟩ := zaL E _ _ _ _ _ _ hi (by omega) h
 exact ⟨h3 (.inl rfl), h2⟩
theorem ex_err {E : PE} {i : Nat} {q : Nat × Int} (hi : i <= E.l.length) (h : exN E i = .inr q) : q.1 <= E.l.length /\ (q.2 = 60 ∨ q.2 = 61 ∨ q.2 = 4 ∨ q.2 = 1) := PF_err E _ _ _ _ _ hi (by omega) (zo7 E i) h
def ruB (E : PE) (i : Nat) : Bool := kdA E i == 1 && kdA E (i + 1) == 6
abbrev Rl := Nat × ByteArray × List Nd
def gN (E : PE) (m i d : Nat) : PR := PF E (5 * E.l.length + 5) m i d
theorem zn7 (E : PE) (m i : Nat) : nee E m i <= 5 * E.l.length + 5 := by
 unfold nee rk
 split
 ·omega
 ·split
  ·omega
  ·split
   ·omega
   ·split
    ·omega
    ·split <;> omega
theorem zc5 (E : PE) (m i d : Nat) (hi : i <= E.l.length) (h5 : m = 5 -> i < E.l.length) : gN E m i d = PF E (5 * E.l.length + 5 + 1) m i d :=
 zo5 E _ _ m i d hi h5 (zn7 E m i) (Nat.le_succ_of_le (zn7 E m i))
theorem gN_ex (E : PE) (i : Nat) : gN E 0 i 0 = exN E i := rfl
theorem zdH {E : PE} {m i d a : Nat} {ns : List Nd} (hi : i <= E.l.length) (h5 : m = 5 -> i < E.l.length) (h : gN E m i d = .inl (a, ns)) : i <= a /\ a <= E.l.length /\ (m = 0 ∨ m = 2 ∨ m = 4 ∨ m = 5 -> i < a) := zaL E _ _ _ _ _ _ hi h5 h
theorem g0 (E : PE) (i d : Nat) (hi : i <= E.l.length) : gN E 0 i d = bnd (gN E 2 i d) fun a ns => ahd ns (gN E 1 a d) := by
 rw [zc5 E 0 i d hi (by omega), PF, if_pos rfl]; rfl
theorem g1 (E : PE) (i d : Nat) (hi : i <= E.l.length) : gN E 1 i d = if kdA E i = 7 then bnd (gN E 2 (i + 1) d) fun a ns => ahd (ns ++ [nd0 8]) (gN E 1 a d) else .inl (i, []) := by
 rw [zc5 E 1 i d hi (by omega), PF, if_neg (by decide), if_pos rfl]; rfl
theorem g2 (E : PE) (i d : Nat) (hi : i <= E.l.length) : gN E 2 i d = bnd (gN E 4 i d) fun a ns => ahd ns (gN E 3 a d) := by
 rw [zc5 E 2 i d hi (by omega), PF, if_neg (by decide), if_neg (by decide), if_pos rfl]; rfl
theorem g3 (E : PE) (i d : Nat) (hi : i <= E.l.length) : gN E 3 i d = if bgn E i = true then bnd (gN E 4 i d) fun a ns => ahd (ns ++ [nd0 7]) (gN E 3 a d) else .inl (i, []) := by
 rw [zc5 E 3 i d hi (by omega), PF, if_neg (by decide), if_neg (by decide), if_neg (by decide), if_pos rfl]; rfl
theorem g4 (E : PE) (i d : Nat) (hi : i <= E.l.length) : gN E 4 i d = if bgn E i = true then
        (if kdA E i = 8 ∨ kdA E i = 9 then (if 240 <= d then .inr (i, 4) else bnd (gN E 4 (i + 1) (d + 1)) fun a ns => .inl (a, ns ++ [nd0 (if kdA E i = 8 then 12 else 13)]))
         else bnd (gN E 5 i d) fun a ns => ahd ns (gN E 6 a d))
       else .inr (i, 60) := by
  rw [zc5 E 4 i d hi (by omega), PF, if_neg (by decide), if_neg (by decide), if_neg (by decide), if_neg (by decide), if_pos rfl]; rfl
theorem g5 (E : PE) (i d : Nat) (hi : i < E.l.length) : gN E 5 i d = match zbt E i with
       | .inl p => .inl (i + p.2, p.1)
       | .inr p => if 240 <= d then .inr (i, 4) else bnd (gN E 0 (i + 1) (d + 1)) fun a ms => if kdA E a = p.1 then .inl (a + 1, ms ++ p.2) else .inr (a, 60) := by
  rw [zc5 E 5 i d (by omega) (fun _ => hi), PF, if_neg (by decide), if_neg (by decide), if_neg (by decide), if_neg (by decide), if_neg (by decide), if_pos rfl]; rfl
theorem g6 (E : PE) (i d : Nat) (hi : i <= E.l.length) : gN E 6 i d = match zfB E i with
       | .inr none => .inl (i, [])
       | .inr (some c) => .inr (i + 1, c)
       | .inl p => ahd [p.1] (gN E 6 (i + p.2) d) := by
  rw [zc5 E 6 i d hi (by omega), PF, if_neg (by decide), if_neg (by decide), if_neg (by decide), if_neg (by decide), if_neg (by decide), if_neg (by decide)]; rfl
theorem zfC (a b : List Nd) (r : PR) : ahd a (ahd b r) = ahd (a ++ b) r := by
 cases r with
 | inl p => show Sum.inl _ = Sum.inl _; rw [List.append_assoc]
 | inr q => rfl
end Go.Proofs.YtnpifgcgjgddoaaGreatDoor.N
