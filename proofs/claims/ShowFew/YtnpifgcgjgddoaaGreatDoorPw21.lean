/- ShowFew holds of every pattern: without any one pair of its parentheses its text is read as another pattern or not at all; the laid tables are tied to the program's text. -/
import Derived.Test.YtnpifgcgjgddoaaGreatDoorPw20
set_option maxRecDepth 100000
set_option maxHeartbeats 8000000
namespace Go.Proofs.YtnpifgcgjgddoaaGreatDoor.N
open Go.RowKit
def PosI (l : List It) (i : Nat) : Prop := ∃ a r, l = a ++ r /\ (i = (itT a).length ∨ ∃ t r2, r = some t :: r2 /\ PlK t.kd /\ (itT a).length <= i /\ i < (itT a).length + (tkX t).size)
theorem PosI.zero (l : List It) : PosI l 0 := ⟨[], l, rfl, .inl rfl⟩
theorem PosI.head {l a r : List It} (e : l = a ++ r) : PosI l (itT a).length := ⟨a, r, e, .inl rfl⟩
theorem zcW {l a r : List It} {x : It} (e : l = a ++ x :: r) : PosI l ((itT a).length + (itX x).length) := by
 have : (itT a).length + (itX x).length = (itT (a ++ [x])).length := by
  rw [zar, List.length_append]
  show _ = _ + (itX x ++ []).length
  rw [List.append_nil]
 rw [this]
 exact PosI.head (r := r) (by rw [e]; simp)
theorem zlT {l a r : List It} {x : It} (e : l = a ++ x :: r) (j : Nat) (hj : j < (itX x).length) : chr (tx8 (itT l)) ((itT a).length + j) = chL (itX x) j := by
 rw [e, zar, zaf, atj]
 exact zf4 _ _ _ hj
theorem ziV {l : List It} (hr : ∀ t ∈ zcn l, Rgt t /\ t.kd ≠ 5 /\ t.kd ≠ 28) {i : Nat} (hp : PosI l i) (hi : i < (itT l).length) :
  ((chr (tx8 (itT l)) i = 39 ∨ chr (tx8 (itT l)) i = 91) -> PosI l (skN (tx8 (itT l)) i) /\ i < skN (tx8 (itT l)) i /\ skN (tx8 (itT l)) i <= (itT l).length) ∧
  (¬ (chr (tx8 (itT l)) i = 39 ∨ chr (tx8 (itT l)) i = 91) -> PosI l (i + 1)) ∧
  (chr (tx8 (itT l)) i = 40 -> ∃ a o r, l = a ++ some o :: r /\ o.kd = 16 /\ i = (itT a).length) := by
 obtain ⟨a, r, e, h⟩ := hp
 rcases h with h | ⟨t, r2, hre, hk, h1, h2⟩
 ·subst h
  cases r with
  | nil => rw [e, List.append_nil] at hi; omega
  | cons x r =>
   have hlen : (itT l).length = (itT a).length + (itX x).length + (itT r).length := by rw [e, zar, zaf]; simp only [List.length_append]; omega
   cases x with
   | none =>
    have hc : chr (tx8 (itT l)) (itT a).length = 32 := zlT e 0 (by decide)
    exact ⟨fun q => by omega, fun _ => zcW e, fun q => by omega⟩
   | some t =>
    have hrt := hr t (mem_tks.2 (by rw [e]; simp))
    have hpos := (zfq hrt.1.r hrt.1.b).p
    have hl1 : (itX (some t)).length = (tkX t).size := rfl
    have hc0 : chr (tx8 (itT l)) (itT a).length = chL (itX (some t)) 0 := zlT e 0 (by omega)
    by_cases q2 : t.kd = 2 ∨ t.kd = 3
    ·have hs := zoM q2 (itT a) (itT r)
     have el : itT l = itT a ++ ((tkX t).data.toList ++ itT r) := by rw [e, zar, zaf]; rfl
     rw [<- el] at hs
     have hs1 : skN (tx8 (itT l)) (itT a).length = (itT a).length + (itX (some t)).length := hs.1
     refine ⟨fun _ => ⟨by rw [hs1]; exact zcW e, by omega, by omega⟩, fun q => absurd hs.2 q, fun q => by have := hs.2; omega⟩
    by_cases q16 : t.kd = 16
    ·have hx : itX (some t) = [40] := znP q16
     rw [hx] at hc0
     have hc : chr (tx8 (itT l)) (itT a).length = 40 := hc0
     refine ⟨fun q => by omega, fun _ => ?_, fun _ => ⟨a, t, r, e, q16, rfl⟩⟩
     have := zcW e
     rw [hx] at this
     exact this
    by_cases q17 : t.kd = 17
    ·have hx : itX (some t) = [41] := znQ q17
     rw [hx] at hc0
     have hc : chr (tx8 (itT l)) (itT a).length = 41 := hc0
     refine ⟨fun q => by omega, fun _ => ?_, fun q => by omega⟩
     have := zcW e
     rw [hx] at this
     exact this
    have hk : PlK t.kd := ⟨by omega, by omega, by omega, by omega⟩
    have hb := zry hrt.1 hk hrt.2
    have hcv : chL (itX (some t)) 0 = (((itX (some t))[0]'(by omega)).toNat : Int) := zk8 (List.getElem?_eq_getElem (by omega))
    have hpl := zrx (hb _ (List.getElem_mem (l := itX (some t)) (n := 0) (by omega)))
    rw [hc0, hcv]
    refine ⟨fun q => by omega, fun _ => ?_, fun q => by omega⟩
    by_cases hend : (tkX t).size = 1
    ·have := zcW e
     rw [hl1, hend] at this
     exact this
    ·exact ⟨a, some t :: r, e, .inr ⟨t, r, rfl, hk, by omega, by omega⟩⟩
 ·subst hre
  have hrt := hr t (mem_tks.2 (by rw [e]; simp))
  have hb := zry hrt.1 hk hrt.2
  have hl1 : (itX (some t)).length = (tkX t).size := rfl
  obtain ⟨j, rfl⟩ : ∃ j, i = (itT a).length + j := ⟨i - (itT a).length, by omega⟩
  have hc0 := zlT e j (by omega)
  have hcv : chL (itX (some t)) j = (((itX (some t))[j]'(by omega)).toNat : Int) := zk8 (List.getElem?_eq_getElem (by omega))
  have hpl := zrx (hb _ (List.getElem_mem (l := itX (some t)) (n := j) (by omega)))
  rw [hc0, hcv]
  refine ⟨fun q => by omega, fun _ => ?_, fun q => by omega⟩
  by_cases hend : j + 1 = (tkX t).size
  ·have := zcW e
   rw [hl1, <- hend] at this
   exact this
  ·exact ⟨a, some t :: r2, e, .inr ⟨t, r2, rfl, hk, by omega, by omega⟩⟩
theorem znS {L : List Nd} (hr : T.Rt L) (hw : ∀ n ∈ L, NdW n) {i : Nat} (hp : PosI (shI L) i) (hi : i < (itT (shI L)).length) (hc : chr (tx8 (itT (shI L))) i = 40) (hl : (itT (shI L)).length <= 65536) {f : Nat} (hf : (itT (shI L)).length < f + i) :
  ∃ x y z, itT (shI L) = x ++ 40 :: (y ++ 41 :: z) /\ i = x.length /\ mtG (tx8 (itT (shI L))) f i 0 = ((x.length + 1 + y.length : Nat) : Int) /\ paR (txO (x ++ 32 :: (y ++ 32 :: z))) ≠ .inl [(⟨#[]⟩, L)] := by
 have hs := zg9 hr hw
 have h58 := zh0 hr
 obtain ⟨_, _, h3⟩ := ziV (fun t ht => ⟨hs.rt t ht, h58 t ht⟩) hp hi
 obtain ⟨a, o, r, e, ho, rfl⟩ := h3 hc
 obtain ⟨b, c, d, e2, hcl, hb⟩ := znL (sh_bal hr) e ho
 have e3 : shI L = a ++ some o :: (b ++ some c :: d) := by rw [e, e2]
 have e4 : itT (shI L) = itT a ++ 40 :: (itT b ++ 41 :: itT d) := by
  rw [e3, zar, zaf, zar, zaf, show itX (some o) = [40] from znP ho, show itX (some c) = [41] from znQ hcl]
  rfl
 have hm := zrz (a := a) (d := d) (f := f) (fun t ht => by
  have hm : t ∈ zcn (shI L) := by
   rw [e3, mem_tks]
   have := mem_tks.1 ht
   simp [this]
  exact ⟨hs.rt t hm, h58 t hm⟩) ho hcl hb (by rw [<- e3]; exact hf)
 rw [<- e3] at hm
 have e5 : itT (a ++ none :: (b ++ none :: d)) = itT a ++ 32 :: (itT b ++ 32 :: itT d) := by
  rw [zar, zaf, zar, zaf]
  rfl
 have hh := znN hr hw e3 ho hcl (by
  rw [e5]
  rw [e4] at hl
  simp only [List.length_append, List.length_cons] at hl ⊢
  exact hl)
 rw [e5] at hh
 exact ⟨itT a, itT b, itT d, e4, rfl, hm, hh⟩
theorem zrA {s : ByteArray} {e : Int} {f i : Nat} (h : ¬ i < s.size) : skG s e f i = s.size := by
 cases f with
 | zero => rfl
 | succ f => rw [skG, if_neg h]
theorem skG_in {s : ByteArray} {e : Int} {f i : Nat} (h : i < s.size) (hf : s.size <= f + i) : ∃ g, s.size <= g + (i + 1) /\ skG s e f i = if chr s i = 92 then skG s e g (i + 2) else if chr s i = e then i + 1 else skG s e g (i + 1) := by
 cases f with
 | zero => omega
 | succ f => exact ⟨f, by omega, by rw [skG, if_pos h]⟩
theorem zlU (s : ByteArray) (i : Nat) (c : Int) (hs : s.size <= 1000000) (hi : i < s.size) (hc : chr s i = c) (e : Int) (he : e = if c = 91 then 93 else c) (w : World) : Calls Tryz.prog 23 #[.string s, .int .i64 i] w fun e w' => e = .returned (.int .i64 (skN s i)) /\ w' = w := by
 have HX : Hid (skG s e s.size (i + 1) = skN s i) := by show skG s e s.size (i + 1) = skN s i; unfold skN; rw [hc, he]
 have hin := zai hi
 have y0 : (0 : Int) <= (i : Int) := by omega
 have y1 : (i : Int) < (s.size : Int) := by omega
 have HO : Hid (∀ f j, ¬ j < s.size -> skG s e f j = s.size) := fun f j h => zrA h
 have HI : Hid (∀ f j, j < s.size -> s.size <= f + j -> ∃ g, s.size <= g + (j + 1) /\ skG s e f j = if chr s j = 92 then skG s e g (j + 2) else if chr s j = e then j + 1 else skG s e g (j + 1)) := fun f j h h2 => skG_in h h2
 have key : ∀ ev : Int, (s[i].toNat : Int) = ev ∨ True -> True := fun _ _ => trivial
 clear key
 by_cases h91 : c = 91
 ·have t91 : ((s[i].toNat : Int) == 91) = true := beq_iff_eq.2 (by rw [<- hin, hc, h91])
  obtain rfl : e = 93 := by rw [he, if_pos h91]
  clear he h91 hc hin
  go_enter Tryz.func23, Tryz.ntmps23
  go_wp2_with fail
  go_loopw [6] (fun t wr => ∃ j f : Nat, j <= s.size + 1 /\ t = .int .i64 j /\ wr = w /\ Hid (s.size <= f + j) /\ Hid (skG s 93 f j = skN s i)) (fun t _ => s.size + 2 - (intOf t).toNat)
  case atStart => exact ⟨i + 1, s.size, by omega, by go_num, rfl, by show s.size <= _; omega, HX⟩
  case round =>
   obtain ⟨j, f, hj, rfl, rfl, HF, HY⟩ := hrel
   clear HX
   have z0 : (0 : Int) <= (j : Int) := by omega
   by_cases hlt : j < s.size
   ·have z1 : (j : Int) < (s.size : Int) := by omega
    have hcj := zai hlt
    obtain ⟨g, hg, hu⟩ := HI.out f j hlt HF.out
    rw [HY.out] at hu
    by_cases h92 : chr s j = 92
    ·have v : ((s[j].toNat : Int) == 92) = true := beq_iff_eq.2 (by rw [<- hcj]; exact h92)
     have HY2 : Hid (skG s 93 g (j + 2) = skN s i) := by show skG s 93 g (j + 2) = skN s i; rw [hu, if_pos h92]
     have HF2 : Hid (s.size <= g + (j + 2)) := by show s.size <= g + (j + 2); omega
     clear HO HI HY hu h92 hcj hg HF
     go_wp2_with fail
     go_roundw
     case rel => exact ⟨j + 2, g, by omega, by go_num, trivial, HF2, HY2⟩
     case measure => simp [intOf]; omega
    ·have v : ((s[j].toNat : Int) == 92) = false := bF (by rw [<- hcj]; exact h92)
     rw [if_neg h92] at hu
     by_cases hx : chr s j = 93
     ·have v2 : ((s[j].toNat : Int) == 93) = true := beq_iff_eq.2 (by rw [<- hcj]; exact hx)
      have HY2 : Hid (skN s i = j + 1) := by show skN s i = j + 1; rw [hu, if_pos hx]
      clear HO HI HY hu h92 hcj hg HF hx
      go_wp2_with fail
      go_ret
      exact ⟨by rw [HY2.out]; go_num, rfl⟩
     ·have v2 : ((s[j].toNat : Int) == 93) = false := bF (by rw [<- hcj]; exact hx)
      have HY2 : Hid (skG s 93 g (j + 1) = skN s i) := by show skG s 93 g (j + 1) = skN s i; rw [hu, if_neg hx]
      have HF2 : Hid (s.size <= g + (j + 1)) := hg
      clear HO HI HY hu h92 hcj hg HF hx
      go_wp2_with fail
      go_roundw
      case rel => exact ⟨j + 1, g, by omega, by go_num, trivial, HF2, HY2⟩
      case measure => simp [intOf]; omega
   ·have z1 : ¬ (j : Int) < (s.size : Int) := by omega
    have HY2 : Hid (skN s i = s.size) := by show skN s i = s.size; rw [<- HY.out, HO.out f j hlt]
    clear HO HI HY HF
    go_wp2_with fail
    go_ret
    exact ⟨by rw [HY2.out]; rfl, rfl⟩
 ·have t91 : ((s[i].toNat : Int) == 91) = false := bF (by rw [<- hin, hc]; exact h91)
  have hce : (s[i].toNat : Int) = e := by rw [<- hin, hc, he, if_neg h91]
  clear he h91 hc hin
  go_enter Tryz.func23, Tryz.ntmps23
  go_wp2_with fail
  go_loopw [6] (fun t wr => ∃ j f : Nat, j <= s.size + 1 /\ t = .int .i64 j /\ wr = w /\ Hid (s.size <= f + j) /\ Hid (skG s e f j = skN s i)) (fun t _ => s.size + 2 - (intOf t).toNat)
  case atStart => exact ⟨i + 1, s.size, by omega, by go_num, rfl, by show s.size <= _; omega, HX⟩
  case round =>
   obtain ⟨j, f, hj, rfl, rfl, HF, HY⟩ := hrel
   clear HX
   have z0 : (0 : Int) <= (j : Int) := by omega
   by_cases hlt : j < s.size
   ·have z1 : (j : Int) < (s.size : Int) := by omega
    have hcj := zai hlt
    obtain ⟨g, hg, hu⟩ := HI.out f j hlt HF.out
    rw [HY.out] at hu
    by_cases h92 : chr s j = 92
    ·have v : ((s[j].toNat : Int) == 92) = true := beq_iff_eq.2 (by rw [<- hcj]; exact h92)
     have HY2 : Hid (skG s e g (j + 2) = skN s i) := by show skG s e g (j + 2) = skN s i; rw [hu, if_pos h92]
     have HF2 : Hid (s.size <= g + (j + 2)) := by show s.size <= g + (j + 2); omega
     clear HO HI HY hu h92 hcj hg HF
     go_wp2_with fail
     go_roundw
     case rel => exact ⟨j + 2, g, by omega, by go_num, trivial, HF2, HY2⟩
     case measure => simp [intOf]; omega
    ·have v : ((s[j].toNat : Int) == 92) = false := bF (by rw [<- hcj]; exact h92)
     rw [if_neg h92] at hu
     by_cases hx : chr s j = e
     ·have v2 : ((s[j].toNat : Int) == (s[i].toNat : Int)) = true := beq_iff_eq.2 (by rw [<- hcj, hce]; exact hx)
      have HY2 : Hid (skN s i = j + 1) := by show skN s i = j + 1; rw [hu, if_pos hx]
      clear HO HI HY hu h92 hcj hg HF hx
      go_wp2_with fail
      go_ret
      exact ⟨by rw [HY2.out]; go_num, rfl⟩
     ·have v2 : ((s[j].toNat : Int) == (s[i].toNat : Int)) = false := bF (by rw [<- hcj, hce]; exact hx)
      have HY2 : Hid (skG s e g (j + 1) = skN s i) := by show skG s e g (j + 1) = skN s i; rw [hu, if_neg hx]
      have HF2 : Hid (s.size <= g + (j + 1)) := hg
      clear HO HI HY hu h92 hcj hg HF hx
      go_wp2_with fail
      go_roundw
      case rel => exact ⟨j + 1, g, by omega, by go_num, trivial, HF2, HY2⟩
      case measure => simp [intOf]; omega
   ·have z1 : ¬ (j : Int) < (s.size : Int) := by omega
    have HY2 : Hid (skN s i = s.size) := by show skN s i = s.size; rw [<- HY.out, HO.out f j hlt]
    clear HO HI HY HF
    go_wp2_with fail
    go_ret
    exact ⟨by rw [HY2.out]; rfl, rfl⟩
theorem skG_bd {s : ByteArray} {e : Int} : ∀ f j, skG s e f j <= s.size /\ (skG s e f j = s.size ∨ j < skG s e f j) := by
 intro f
 induction f with
 | zero => intro j; exact ⟨Nat.le_refl _, .inl rfl⟩
 | succ f ih =>
  intro j
  rw [skG]
  by_cases h : j < s.size
  ·rw [if_pos h]
   by_cases h2 : chr s j = 92
   ·rw [if_pos h2]
    obtain ⟨q1, q2⟩ := ih (j + 2)
    exact ⟨q1, by omega⟩
   ·rw [if_neg h2]
    by_cases h3 : chr s j = e
    ·rw [if_pos h3]; exact ⟨by omega, .inr (by omega)⟩
    ·rw [if_neg h3]
     obtain ⟨q1, q2⟩ := ih (j + 1)
     exact ⟨q1, by omega⟩
  ·rw [if_neg h]; exact ⟨Nat.le_refl _, .inl rfl⟩
theorem skN_bd {s : ByteArray} {i : Nat} (h : i < s.size) : i < skN s i /\ skN s i <= s.size := by
 unfold skN
 obtain ⟨q1, q2⟩ := skG_bd (s := s) (e := if chr s i = 91 then 93 else chr s i) s.size (i + 1)
 exact ⟨by omega, q1⟩
theorem znT (s : ByteArray) (i : Nat) (hs : s.size <= 1000000) (hi : i < s.size) (w : World) : Calls Tryz.prog 23 #[.string s, .int .i64 i] w fun e w' => e = .returned (.int .i64 (skN s i)) /\ w' = w := zlU s i _ hs hi rfl _ rfl w
theorem mtG_out {s : ByteArray} {o : Int} {f i : Nat} (h : ¬ i < s.size) : mtG s f i o = -1 := by
 cases f with
 | zero => rfl
 | succ f => rw [mtG, if_neg h]
theorem mtG_in {s : ByteArray} {o : Int} {f i : Nat} (h : i < s.size) (hf : s.size < f + i) : ∃ g, s.size <= g + i /\ mtG s f i o = if chr s i = 39 ∨ chr s i = 91 then mtG s g (skN s i) o else if mtO (chr s i) o = 0 then (i : Int) else mtG s g (i + 1) (mtO (chr s i) o) := by
 cases f with
 | zero => omega
 | succ f => exact ⟨f, by omega, by rw [mtG, if_pos h]⟩
set_option maxRecDepth 100000 in
set_option maxHeartbeats 8000000 in
theorem match_any (s : ByteArray) (i : Nat) (hs : s.size ≤ 1000000) (hi : i ≤ s.size) (f0 : Nat) (hf0 : s.size < f0 + i) (w : World) : Calls Tryz.prog 24 #[.string s, .int .i64 i] w fun e w' => e = .returned (.int .i64 (mtG s f0 i 0)) ∧ w' = w := by
  have HX := (show Hid (mtG s f0 i 0 = mtG s f0 i 0) from rfl)
  have HF0 := (show Hid (s.size < f0 + i) from hf0)
  have HSk := (show Hid (∀ j, j < s.size → ∀ w, Calls Tryz.prog 23 #[.string s, .int .i64 j] w fun e w' => e = .returned (.int .i64 (skN s j)) ∧ w' = w) from fun j hj w => znT s j hs hj w)
  have HO := (show Hid (∀ f j o, ¬ j < s.size → mtG s f j o = -1) from fun f j o h => mtG_out h)
  have HI := (show Hid (∀ f j o, j < s.size → s.size < f + j → ∃ g, s.size ≤ g + j ∧ mtG s f j o = if chr s j = 39 ∨ chr s j = 91 then mtG s g (skN s j) o else if mtO (chr s j) o = 0 then (j : Int) else mtG s g (j + 1) (mtO (chr s j) o)) from fun f j o h h2 => mtG_in h h2)
  clear hf0
  go_enter Tryz.func24, Tryz.ntmps24
  go_wp2_with fail
  go_loopw [5, 6] (fun v t wr => ∃ (j f : Nat) (o : Int), j ≤ s.size ∧ t = .int .i64 j ∧ v = .int .i64 o ∧ wr = w ∧ Hid (-(j : Int) ≤ o ∧ o ≤ j) ∧ Hid (s.size < f + j) ∧ Hid (mtG s f j o = mtG s f0 i 0)) (fun _ t _ => s.size - (intOf t).toNat)
  case atStart => exact ⟨i, f0, 0, hi, by go_num, by go_num, rfl, (by show -(i : Int) ≤ 0 ∧ (0 : Int) ≤ i; omega), HF0, rfl⟩
  case round =>
    obtain ⟨j, f, o, hj, rfl, rfl, rfl, HB, HF, HY⟩ := hrel
    clear HX HF0
    have z0 : (0 : Int) ≤ (j : Int) := by omega
    by_cases hlt : j < s.size
    · have z1 : (j : Int) < (s.size : Int) := by omega
      have hcj := zai hlt
      obtain ⟨g, hg, hu⟩ := HI.out f j o hlt HF.out
      rw [HY.out] at hu
      obtain ⟨hb1, hb2⟩ := HB.out
      have hsk := skN_bd hlt
      have HSj := (show Hid _ from HSk.out j hlt)
      have hd : ∀ k : Int, ((s[j].toNat : Int) == k) = true ↔ chr s j = k := fun k => by rw [hcj]; exact beq_iff_eq
      have hd2 : ∀ k : Int, chr s j ≠ k → ((s[j].toNat : Int) == k) = false := fun k h => by rw [← hcj]; exact beq_eq_false_iff_ne.2 h
      by_cases h39 : chr s j = 39 ∨ chr s j = 91
      · rw [if_pos h39] at hu
        have HY2 := (show Hid (mtG s g (skN s j) o = mtG s f0 i 0) from hu.symm)
        have HF2 := (show Hid (s.size < g + skN s j) from by show s.size < g + skN s j; omega)
        have HB2 := (show Hid (-((skN s j : Nat) : Int) ≤ o ∧ o ≤ ((skN s j : Nat) : Int)) from by show -((skN s j : Nat) : Int) ≤ o ∧ o ≤ ((skN s j : Nat) : Int); omega)
        obtain ⟨k1, k2⟩ := hsk
        clear HO HI HY hu hg HF HB HSk
        generalize skN s j = sj at *
        by_cases e39 : chr s j = 39
        · have v : ((s[j].toNat : Int) == 39) = true := (hd 39).2 e39
          clear hd hd2 h39 e39 hcj
          go_wp2_with fail
          refine (HSj.out _).mono ?_
          rintro e w1 ⟨rfl, rfl⟩
          clear HSj
          go_wp2_with fail
          go_roundw
          case rel => exact ⟨sj, g, o, by omega, by go_num, by go_num, trivial, HB2, HF2, HY2⟩
          case measure => simp [intOf]; omega
        · have v : ((s[j].toNat : Int) == 39) = false := hd2 39 e39
          have v2 : ((s[j].toNat : Int) == 91) = true := (hd 91).2 (by rcases h39 with q | q; exact absurd q e39; exact q)
          clear hd hd2 h39 e39 hcj
          go_wp2_with fail
          refine (HSj.out _).mono ?_
          rintro e w1 ⟨rfl, rfl⟩
          clear HSj
          go_wp2_with fail
          go_roundw
          case rel => exact ⟨sj, g, o, by omega, by go_num, by go_num, trivial, HB2, HF2, HY2⟩
          case measure => simp [intOf]; omega
      · rw [if_neg h39] at hu
        have v : ((s[j].toNat : Int) == 39) = false := hd2 39 (fun q => h39 (.inl q))
        have v2 : ((s[j].toNat : Int) == 91) = false := hd2 91 (fun q => h39 (.inr q))
        have HF2 := (show Hid (s.size < g + (j + 1)) from by show s.size < g + (j + 1); omega)
        clear HO HI HY hg HF HB HSk HSj h39 hsk
        by_cases h40 : chr s j = 40
        · have v3 : ((s[j].toNat : Int) == 40) = true := (hd 40).2 h40
          have hmt : mtO (chr s j) o = o + 1 := by unfold mtO; rw [if_pos h40]
          by_cases hz : o + 1 = 0
          · have vz : ((o + 1) == 0) = true := beq_iff_eq.2 hz
            have HY2 := (show Hid (mtG s f0 i 0 = (j : Int)) from by show mtG s f0 i 0 = j; rw [hu, hmt, if_pos hz])
            clear hu hmt hz hd hd2 hcj
            go_wp2_with fail
            go_ret
            exact ⟨by rw [HY2.out]; rfl, rfl⟩
          · have vz : ((o + 1) == 0) = false := beq_eq_false_iff_ne.2 hz
            have HY2 := (show Hid (mtG s g (j + 1) (o + 1) = mtG s f0 i 0) from by show mtG s g (j + 1) (o + 1) = _; rw [hu, hmt, if_neg hz])
            have HB2 := (show Hid (-((j + 1 : Nat) : Int) ≤ o + 1 ∧ o + 1 ≤ ((j + 1 : Nat) : Int)) from by show -((j + 1 : Nat) : Int) ≤ o + 1 ∧ o + 1 ≤ ((j + 1 : Nat) : Int); omega)
            clear hu hmt hz hd hd2 hcj
            go_wp2_with fail
            go_roundw
            case rel => exact ⟨j + 1, g, o + 1, by omega, by go_num, by go_num, trivial, HB2, HF2, HY2⟩
            case measure => simp [intOf]; omega
        · have v3 : ((s[j].toNat : Int) == 40) = false := hd2 40 h40
          by_cases h41 : chr s j = 41
          · have v4 : ((s[j].toNat : Int) == 41) = true := (hd 41).2 h41
            have hmt : mtO (chr s j) o = o - 1 := by unfold mtO; rw [if_neg h40, if_pos h41]
            by_cases hz : o - 1 = 0
            · have vz : ((o - 1) == 0) = true := beq_iff_eq.2 hz
              have HY2 := (show Hid (mtG s f0 i 0 = (j : Int)) from by show mtG s f0 i 0 = j; rw [hu, hmt, if_pos hz])
              clear hu hmt hz hd hd2 hcj
              go_wp2_with fail
              go_ret
              exact ⟨by rw [HY2.out]; rfl, rfl⟩
            · have vz : ((o - 1) == 0) = false := beq_eq_false_iff_ne.2 hz
              have HY2 := (show Hid (mtG s g (j + 1) (o - 1) = mtG s f0 i 0) from by show mtG s g (j + 1) (o - 1) = _; rw [hu, hmt, if_neg hz])
              have HB2 := (show Hid (-((j + 1 : Nat) : Int) ≤ o - 1 ∧ o - 1 ≤ ((j + 1 : Nat) : Int)) from by show -((j + 1 : Nat) : Int) ≤ o - 1 ∧ o - 1 ≤ ((j + 1 : Nat) : Int); omega)
              clear hu hmt hz hd hd2 hcj
              go_wp2_with fail
              go_roundw
              case rel => exact ⟨j + 1, g, o - 1, by omega, by go_num, by go_num, trivial, HB2, HF2, HY2⟩
              case measure => simp [intOf]; omega
          · have v4 : ((s[j].toNat : Int) == 41) = false := hd2 41 h41
            have hmt : mtO (chr s j) o = o := by unfold mtO; rw [if_neg h40, if_neg h41]
            by_cases hz : o = 0
            · have vz : ((o) == 0) = true := beq_iff_eq.2 hz
              have HY2 := (show Hid (mtG s f0 i 0 = (j : Int)) from by show mtG s f0 i 0 = j; rw [hu, hmt, if_pos hz])
              clear hu hmt hz hd hd2 hcj
              go_wp2_with fail
              go_ret
              exact ⟨by rw [HY2.out]; rfl, rfl⟩
            · have vz : ((o) == 0) = false := beq_eq_false_iff_ne.2 hz
              have HY2 := (show Hid (mtG s g (j + 1) (o) = mtG s f0 i 0) from by show mtG s g (j + 1) (o) = _; rw [hu, hmt, if_neg hz])
              have HB2 := (show Hid (-((j + 1 : Nat) : Int) ≤ o ∧ o ≤ ((j + 1 : Nat) : Int)) from by show -((j + 1 : Nat) : Int) ≤ o ∧ o ≤ ((j + 1 : Nat) : Int); omega)
              clear hu hmt hz hd hd2 hcj
              go_wp2_with fail
              go_roundw
              case rel => exact ⟨j + 1, g, o, by omega, by go_num, by go_num, trivial, HB2, HF2, HY2⟩
              case measure => simp [intOf]; omega
    · have z1 : ¬ (j : Int) < (s.size : Int) := by omega
      have HY2 := (show Hid (mtG s f0 i 0 = -1) from by show mtG s f0 i 0 = -1; rw [← HY.out, HO.out f j o hlt])
      clear HO HI HY HF HB HSk
      go_wp2_with fail
      go_ret
      exact ⟨by rw [HY2.out]; rfl, rfl⟩
theorem zge (s : ByteArray) (a b : Nat) : (s.extract a b).data.toList = (s.data.toList.take b).drop a := by
 rw [ByteArray.data_extract, Array.toList_extract, List.extract_eq_take_drop, List.drop_take]
theorem zlV (x y z : List UInt8) (n m : Nat) (hn : n = x.length) (hm : m = x.length + 1 + y.length) : (txO (x ++ 40 :: (y ++ 41 :: z))).extract 0 n ++ ⟨#[32]⟩ ++ (txO (x ++ 40 :: (y ++ 41 :: z))).extract (n + 1) m ++ ⟨#[32]⟩ ++ (txO (x ++ 40 :: (y ++ 41 :: z))).extract (m + 1) (txO (x ++ 40 :: (y ++ 41 :: z))).size = txO (x ++ 32 :: (y ++ 32 :: z)) := by
 apply ByteArray.ext
 apply Array.toList_inj.1
 rw [zba, zba, zba, zba, zge, zge, zge, zcu]
 have e : ∀ l : List UInt8, (txO l).data.toList = l := fun l => rfl
 rw [e, e, hm, hn]
 have h1 : List.drop 0 (List.take x.length (x ++ 40 :: (y ++ 41 :: z))) = x := by rw [List.drop_zero, List.take_left]
 have h2 : List.drop (x.length + 1) (List.take (x.length + 1 + y.length) (x ++ 40 :: (y ++ 41 :: z))) = y := by
  have e1 : x ++ 40 :: (y ++ 41 :: z) = (x ++ [40]) ++ (y ++ 41 :: z) := by simp
  have e2 : (x ++ [40]).length = x.length + 1 := by simp
  rw [e1, <- e2, List.take_append, List.drop_append]
  simp
 have h3 : List.drop (x.length + 1 + y.length + 1) (List.take (x ++ 40 :: (y ++ 41 :: z)).length (x ++ 40 :: (y ++ 41 :: z))) = z := by
  rw [List.take_length]
  have e1 : x ++ 40 :: (y ++ 41 :: z) = (x ++ [40] ++ y ++ [41]) ++ z := by simp
  have e2 : (x ++ [40] ++ y ++ [41]).length = x.length + 1 + y.length + 1 := by simp; omega
  rw [e1, <- e2, List.drop_left]
 rw [h1, h2, h3]
 simp
theorem zoN (L : List Nd) (Ap : Option Addr) (cp : Nat) (hL : L.length <= 140737488355328) (hT : ∀ n ∈ L, n.tx.size <= 140737488355328) (hw : ∀ n ∈ L, NdW n) (w : World) (hp : T.RdN w Ap L) (c : Int) (hc : c ≠ 0) (hs : shR L = (⟨#[]⟩, c)) : Calls Tryz.prog 7 #[.slice Ap L.length cp] w fun e w' => e = .returned (.bool true) /\ Below w.heap.size w w' := by
 have HWk : Hid (∀ W, Calls Tryz.prog 14 #[] W fun e w' => e = .returned (.bool true) /\ Below W.heap.size W w') := zeR
 have HS := (show Hid (∀ W, Below w.heap.size w W -> Calls Tryz.prog 9 #[.slice Ap L.length cp] W fun e w' => e = .returned (.tuple #[.string ⟨#[]⟩, .int .i64 c]) /\ Below W.heap.size W w') from fun W hW => by
  have h := zct L Ap cp hL hT hw W (hp.below hW (Nat.le_refl _))
  rw [hs] at h
  exact h)
 have t1 : (c != 0) = true := by rw [bne, bF hc]; rfl
 have t2 : (c == 0) = false := bF hc
 clear hs hc hp hT hw
 go_enter Tryz.func7, Tryz.ntmps7
 go_wp2_with fail
 refine (HWk.out _).mono ?_
 rintro e w1 ⟨rfl, b1⟩
 have HB1 : Hid (Below w.heap.size w w1) := b1
 clear b1 HWk
 go_wp2_with fail
 refine (HS.out _ HB1.out).mono ?_
 rintro e w2 ⟨rfl, b2⟩
 have HB2 : Hid (Below w.heap.size w w2) := HB1.out.trans (b2.mono HB1.out.size)
 clear b2 HB1 HS
 go_wp2_with fail
 go_ret
 exact ⟨rfl, HB2.out⟩
theorem zrB (L : List Nd) (Ap : Option Addr) (cp : Nat) (hL : L.length <= 140737488355328) (hT : ∀ n ∈ L, n.tx.size <= 140737488355328) (hw : ∀ n ∈ L, NdW n) (w : World) (hp : T.RdN w Ap L) (s : ByteArray) (hb : 1500 < s.size) (hs : shR L = (s, 0)) : Calls Tryz.prog 7 #[.slice Ap L.length cp] w fun e w' => e = .returned (.bool true) /\ Below w.heap.size w w' := by
 have HWk : Hid (∀ W, Calls Tryz.prog 14 #[] W fun e w' => e = .returned (.bool true) /\ Below W.heap.size W w') := zeR
 have HS := (show Hid (∀ W, Below w.heap.size w W -> Calls Tryz.prog 9 #[.slice Ap L.length cp] W fun e w' => e = .returned (.tuple #[.string s, .int .i64 0]) /\ Below W.heap.size W w') from fun W hW => by
  have h := zct L Ap cp hL hT hw W (hp.below hW (Nat.le_refl _))
  rw [hs] at h
  exact h)
 have t1 : (1500 : Int) < (s.size : Int) := by omega
 clear hs hb hp hT hw
 go_enter Tryz.func7, Tryz.ntmps7
 go_wp2_with fail
 refine (HWk.out _).mono ?_
 rintro e w1 ⟨rfl, b1⟩
 have HB1 : Hid (Below w.heap.size w w1) := b1
 clear b1 HWk
 go_wp2_with fail
 refine (HS.out _ HB1.out).mono ?_
 rintro e w2 ⟨rfl, b2⟩
 have HB2 : Hid (Below w.heap.size w w2) := HB1.out.trans (b2.mono HB1.out.size)
 clear b2 HB1 HS
 go_wp2_with fail
 go_ret
 exact ⟨rfl, HB2.out⟩
theorem few_go (L : List Nd) (Ap : Option Addr) (cp : Nat) (hr : T.Rt L) (hw : ∀ n ∈ L, NdW n) (w : World) (hg : GW w) (hp : T.RdN w Ap L) (s : ByteArray) (hs : s = txO (itT (shI L))) (hb : ¬ 1500 < s.size) : Calls Tryz.prog 7 #[.slice Ap L.length cp] w fun e w' => e = .returned (.bool true) /\ Below w.heap.size w w' := by
 have hL : L.length <= 2048 := by have := hr.len; omega
 have hsz : s.size = (itT (shI L)).length := by rw [hs, zcu]
 have HWk : Hid (∀ W, Calls Tryz.prog 14 #[] W fun e w' => e = .returned (.bool true) /\ Below W.heap.size W w') := zeR
 have HS := (show Hid (∀ W, Below w.heap.size w W -> Calls Tryz.prog 9 #[.slice Ap L.length cp] W fun e w' => e = .returned (.tuple #[.string s, .int .i64 0]) /\ Below W.heap.size W w') from fun W hW => by
  have h := zct L Ap cp (by omega) (rt_tx hr) hw W (hp.below hW (Nat.le_refl _))
  rw [zlL hr, zoJ (by omega), <- hs] at h
  exact h)
 have hss := zg9 hr hw
 have h58 := zh0 hr
 have hch : ∀ i, chr s i = chr (tx8 (itT (shI L))) i := fun i => by rw [hs]; rfl
 have HSt := (show Hid (∀ i, PosI (shI L) i -> i < s.size -> ((chr s i = 39 ∨ chr s i = 91) -> PosI (shI L) (skN s i) /\ i < skN s i /\ skN s i <= s.size) /\ (¬ (chr s i = 39 ∨ chr s i = 91) -> PosI (shI L) (i + 1))) from fun i hpi hi => by
  have h := ziV (fun t ht => ⟨hss.rt t ht, h58 t ht⟩) hpi (by omega)
  have e : s = tx8 (itT (shI L)) := hs
  rw [<- e] at h
  exact ⟨fun q => by have := h.1 q; rw [hsz]; exact this, h.2.1⟩)
 have HOp := (show Hid (∀ i, PosI (shI L) i -> i < s.size -> chr s i = 40 -> ∃ m : Nat, i + 1 <= m /\ m < s.size /\ mtG s (s.size + 1) i 0 = (m : Int) /\ ∃ t2, s.extract 0 i ++ ⟨#[32]⟩ ++ s.extract (i + 1) m ++ ⟨#[32]⟩ ++ s.extract (m + 1) s.size = t2 /\ paR t2 ≠ .inl [(⟨#[]⟩, L)]) from fun i hpi hi hc => by
  have e : s = tx8 (itT (shI L)) := hs
  obtain ⟨x, y, z, e1, e2, e3, e4⟩ := znS hr hw hpi (by omega) (by rw [<- e]; exact hc) (by omega) (f := s.size + 1) (by omega)
  rw [<- e] at e3
  refine ⟨x.length + 1 + y.length, by omega, ?_, e3, _, ?_, e4⟩
  ·rw [hsz, e1]; simp; omega
  ·have h := zlV x y z i (x.length + 1 + y.length) e2 rfl
   rw [<- e1, <- hs] at h
   exact h)
 have HMt : Hid (∀ i, i < s.size -> ∀ w, Calls Tryz.prog 24 #[.string s, .int .i64 i] w fun e w' => e = .returned (.int .i64 (mtG s (s.size + 1) i 0)) /\ w' = w) := fun i hi w => match_any s i (by omega) (by omega) (s.size + 1) (by omega) w
 have HSk : Hid (∀ j, j < s.size -> ∀ w, Calls Tryz.prog 23 #[.string s, .int .i64 j] w fun e w' => e = .returned (.int .i64 (skN s j)) /\ w' = w) := fun j hj w => znT s j (by omega) hj w
 have HPt := (show Hid (∀ t2 W, GW W -> paR t2 ≠ .inl [(⟨#[]⟩, L)] -> Calls Tryz.prog 19 #[.string t2] W fun e w' => (∃ A M c p q, e = .returned (.tuple #[.slice A M.length c, .agg #[.int .i64 p, .int .i64 q]]) /\ T.RdN w' A M /\ M.length <= 2048 /\ (p == 0 && q == 0 -> T.zgw L M = false) /\ ∀ a, A = some a -> W.heap.size <= a.block) /\ Below W.heap.size W w') from fun t2 W hW hne => by
  cases hpa : paR t2 with
  | inr p =>
   refine (zq8 t2 W hW hpa).mono ?_
   rintro e w' ⟨rfl, hb⟩
   refine ⟨⟨none, [], 0, p.1, p.2, rfl, fun h => absurd rfl h, by decide, fun h => ?_, fun a ha => by cases ha⟩, hb⟩
   have := (zqI hpa).1
   simp at h
   exact absurd h.2 this
  | inl gs =>
   obtain ⟨M, rfl, hrM, _⟩ := znF hpa
   refine (zq7 t2 W hW hpa).mono ?_
   rintro e w' ⟨⟨A, c, rfl, h1, h9⟩, hb⟩
   refine ⟨⟨A, M, c, 0, 0, rfl, h1, by have := hrM.len; omega, fun _ => ?_, h9⟩, hb⟩
   cases hq : T.zgw L M with
   | false => rfl
   | true =>
    exfalso
    apply hne
    rw [hpa]
    have : L = M := by unfold T.zgw at hq; exact @of_decide_eq_true _ (T.zj4 _ _) hq
    rw [this])
 have HSm : Hid (∀ W A M c, Below w.heap.size w W -> T.RdN W A M -> M.length <= 2048 -> Calls Tryz.prog 20 #[.slice Ap L.length cp, .slice A M.length c] W fun e w' => e = .returned (.bool (T.zgw L M)) /\ Below W.heap.size W w') := fun W A M c hW hA hM => T.zem Ap A cp c L M (by omega) (by omega) W (hp.below hW (Nat.le_refl _)) hA
 have H0 : Hid (PosI (shI L) 0) := PosI.zero _
 have HG : Hid (GW w) := hg
 have t1 : ¬ (1500 : Int) < (s.size : Int) := by omega
 have hs15 : s.size <= 1500 := by omega
 have heql := fx_eql
 clear hr hw hp hg hss h58 hch hsz hs hb
 go_enter Tryz.func7, Tryz.ntmps7
 go_wp2_with fail
 refine (HWk.out _).mono ?_
 rintro e w1 ⟨rfl, b1⟩
 have HB1 : Hid (Below w.heap.size w w1) := b1
 clear b1 HWk
 go_wp2_with fail
 refine (HS.out _ HB1.out).mono ?_
 rintro e w2 ⟨rfl, b2⟩
 have HB2 : Hid (Below w.heap.size w w2) := HB1.out.trans (b2.mono HB1.out.size)
 clear b2 HB1 HS
 go_wp2_with fail
 go_loopw [5] (fun t wr => ∃ i : Nat, i <= s.size /\ t = .int .i64 i /\ Hid (PosI (shI L) i) /\ Hid (Below w.heap.size w wr)) (fun t _ => s.size - (intOf t).toNat)
 case atStart => exact ⟨0, by omega, by go_num, H0, HB2⟩
 case round =>
  obtain ⟨i, hi, rfl, HP, HW⟩ := hrel
  clear H0 HB2
  have z0 : (0 : Int) <= (i : Int) := by omega
  by_cases hlt : i < s.size
  ·have z1 : (i : Int) < (s.size : Int) := by omega
   have hci := zai hlt
   obtain ⟨q1, q2⟩ := HSt.out i HP.out hlt
   by_cases h39 : chr s i = 39 ∨ chr s i = 91
   ·obtain ⟨p1, p2, p3⟩ := q1 h39
    have HP2 := hO p1
    have HSi := hO (HSk.out i hlt)
    clear q1 q2 p1 HSt HOp HMt HSk HPt HSm HP
    by_cases e39 : chr s i = 39
    ·have v : ((s[i].toNat : Int) == 39) = true := by rw [<- hci]; exact beq_iff_eq.2 e39
     clear hci e39 h39
     generalize skN s i = si at *
     go_wp2_with fail
     refine (HSi.out _).mono ?_
     rintro e w3 ⟨rfl, rfl⟩
     go_wp2_with fail
     go_roundw
     case rel => exact ⟨si, by omega, by go_num, HP2, HW⟩
     case measure => simp [intOf]; omega
    ·have v : ((s[i].toNat : Int) == 39) = false := by rw [<- hci]; exact bF e39
     have v2 : ((s[i].toNat : Int) == 91) = true := by rw [<- hci]; exact beq_iff_eq.2 (by rcases h39 with q | q; exact absurd q e39; exact q)
     clear hci e39 h39
     generalize skN s i = si at *
     go_wp2_with fail
     refine (HSi.out _).mono ?_
     rintro e w3 ⟨rfl, rfl⟩
     go_wp2_with fail
     go_roundw
     case rel => exact ⟨si, by omega, by go_num, HP2, HW⟩
     case measure => simp [intOf]; omega
   ·have HP2 : Hid (PosI (shI L) (i + 1)) := q2 h39
    have v : ((s[i].toNat : Int) == 39) = false := by rw [<- hci]; exact bF (fun q => h39 (.inl q))
    have v2 : ((s[i].toNat : Int) == 91) = false := by rw [<- hci]; exact bF (fun q => h39 (.inr q))
    clear q1 q2 h39 HSt HSk
    by_cases h40 : chr s i = 40
    ·have v3 : ((s[i].toNat : Int) == 40) = true := by rw [<- hci]; exact beq_iff_eq.2 h40
     obtain ⟨m, m1, m2, m3, t2, m4, m5⟩ := HOp.out i HP.out hlt h40
     have HMi : Hid (∀ w, Calls Tryz.prog 24 #[.string s, .int .i64 i] w fun e w' => e = .returned (.int .i64 (m : Int)) /\ w' = w) := fun w => by have h := HMt.out i hlt w; rw [m3] at h; exact h
     clear hci h40 HOp HMt m3 HP
     go_wp2_with fail
     refine (HMi.out _).mono ?_
     rintro e w3 ⟨rfl, rfl⟩
     clear HMi
     have y1 : ¬ (m : Int) < 0 := by omega
     go_wp2_with fail
     have zi : (i : Int) <= (s.size : Int) := by omega
     have zm : (i : Int) + 1 <= (m : Int) := by omega
     have zs : (m : Int) <= (s.size : Int) := by omega
     have zs2 : (m : Int) + 1 <= (s.size : Int) := by omega
     have hw1 : IntKind.i64.wrap ((i : Int) + 1) = (i : Int) + 1 := by rw [IntKind.wrap_i64]; omega
     have hw2 : IntKind.i64.wrap ((m : Int) + 1) = (m : Int) + 1 := by rw [IntKind.wrap_i64]; omega
     have r7 : ((i : Int) + 1).toNat = i + 1 := by omega
     have r8 : ((m : Int) + 1).toNat = m + 1 := by omega
     have r1 : ¬ 9223372036854775807 < i + 1 := by omega
     have r2 : (0 : Int) <= (i : Int) + 1 := by omega
     have r3 : ¬ 9223372036854775807 < i + 1 + (min m s.size - (i + 1)) := by omega
     have r4 : ¬ 9223372036854775807 < i + 1 + (min m s.size - (i + 1)) + 1 := by omega
     have r5 : (0 : Int) <= (m : Int) + 1 := by omega
     have r6 : ¬ 9223372036854775807 < i + 1 + (min m s.size - (i + 1)) + 1 + (s.size - (m + 1)) := by omega
     have HPc : Hid (∀ W, Below w3.heap.size w3 W -> Calls Tryz.prog 19 #[.string t2] W fun e w' => (∃ A M c p q, e = .returned (.tuple #[.slice A M.length c, .agg #[.int .i64 p, .int .i64 q]]) /\ T.RdN w' A M /\ M.length <= 2048 /\ (p == 0 && q == 0 -> T.zgw L M = false) /\ ∀ a, A = some a -> W.heap.size <= a.block) /\ Below W.heap.size W w') := fun W hW => HPt.out t2 W ((HG.out.later HW.out).later hW) m5
     go_region_with ((go_at_call 19; refine (HPc.out _ (by first | exact (Below.refl _ _).drew | exact (zaa _ _).drew | exact ((Below.refl _ _).drew).alloc (Nat.le_refl _) _)).mono ?_; rintro e wA ⟨⟨A, M, c, p, q, rfl, hA, hM, hpq, hAb⟩, hkb⟩; try (have hx : FX wA w3.heap.size 0 0 := FX.below (show FX ((w3.alloc (.cells #[.int .i64 0, .int .i64 0] 39)).drew) w3.heap.size 0 0 from ⟨heap_alloc_new w3 _⟩) hkb; have g0 := hx.c0; have g1 := hx.c1; have f0 := hx.f0; have f1 := hx.f1)))
     ·have hk1 : Below w3.heap.size w3 wA := ((Below.refl _ _).drew).trans hkb
      have HWx : Hid (Below w.heap.size w (wA.alloc (.cells #[.int .i64 p, .int .i64 q] 39))) := (HW.out.trans (hk1.mono HW.out.size)).alloc (Nat.le_trans HW.out.size hk1.size) _
      have HFx : Hid (FX (wA.alloc (.cells #[.int .i64 p, .int .i64 q] 39)) wA.heap.size p q) := ⟨heap_alloc_new wA _⟩
      have HRx : Hid (T.RdN (wA.alloc (.cells #[.int .i64 p, .int .i64 q] 39)) A M) := hA.below (zaa _ _) (Nat.le_refl _)
      have k9 := hk1
      have HPq := hO hpq
      have HMl : Hid (M.length <= 2048) := hM
      clear hkb hA hpq hAb hM HPc HPt k9
      have g0 := HFx.out.c0
      have g1 := HFx.out.c1
      generalize wA.alloc (.cells #[.int .i64 p, .int .i64 q] 39) = w6 at *
      cases hpz : (p == 0 && q == 0) with
      | false =>
       clear HSm
       go_wp2_with fail
       go_roundw
       case rel => exact ⟨i + 1, by omega, by go_num, HP2, HWx⟩
       case measure => simp [intOf]; omega
      | true =>
       have HSx := (show Hid (∀ _ : Unit, Calls Tryz.prog 20 #[.slice Ap L.length cp, .slice A M.length c] w6 fun e w' => e = .returned (.bool false) /\ Below w6.heap.size w6 w') from fun _ => by
        have h := HSm.out w6 A M c HWx.out HRx.out HMl.out
        rw [HPq.out hpz] at h
        exact h)
       clear HSm
       go_wp2_with fail
       refine (HSx.out ()).mono ?_
       rintro e w7 ⟨rfl, b7⟩
       have HW7 : Hid (Below w.heap.size w w7) := HWx.out.trans (b7.mono HWx.out.size)
       clear b7 HSx HRx HFx g0 g1 HWx
       go_wp2_with fail
       go_roundw
       case rel => exact ⟨i + 1, by omega, by go_num, HP2, HW7⟩
       case measure => simp [intOf]; omega
     ·have hk1 : Below w3.heap.size w3 wA := ((zaa w3 (.cells #[.int .i64 0, .int .i64 0] 39)).drew).trans (hkb.mono (zaa w3 (.cells #[.int .i64 0, .int .i64 0] 39)).size)
      have hws := HW.out.size
      have HWx : Hid (Below w.heap.size w ((wA.setCell ⟨w3.heap.size, 0, none⟩ (.int .i64 p)).setCell ⟨w3.heap.size, 1, none⟩ (.int .i64 q))) := ((HW.out.trans (hk1.mono HW.out.size)).setCell (p := ⟨w3.heap.size, 0, none⟩) hws _).setCell (p := ⟨w3.heap.size, 1, none⟩) hws _
      have HFx := (show Hid (FX ((wA.setCell ⟨w3.heap.size, 0, none⟩ (.int .i64 p)).setCell ⟨w3.heap.size, 1, none⟩ (.int .i64 q)) w3.heap.size p q) from by
       have h1 : FX (wA.setCell ⟨w3.heap.size, 0, none⟩ (.int .i64 p)) w3.heap.size p 0 := ⟨by rw [heap_setCell_same _ w3.heap.size 0 _ 39 _ hx.heap]; rfl⟩
       exact ⟨by rw [heap_setCell_same _ w3.heap.size 1 _ 39 _ h1.heap]; rfl⟩)
      have hAl : M ≠ [] -> ∀ a, A = some a -> a.block ≠ w3.heap.size := fun _ a ha => by
       have h1 := hAb a ha
       have h2 : (w3.alloc (.cells #[.int .i64 0, .int .i64 0] 39)).drew.heap.size = w3.heap.size + 1 := World.size_alloc _ _
       omega
      have HRx : Hid (T.RdN ((wA.setCell ⟨w3.heap.size, 0, none⟩ (.int .i64 p)).setCell ⟨w3.heap.size, 1, none⟩ (.int .i64 q)) A M) := zoI (zoI hA hAl) hAl
      clear hx g0 g1 f0 f1 hAl
      have k9 := hk1
      have HPq := hO hpq
      have HMl : Hid (M.length <= 2048) := hM
      clear hkb hA hpq hAb hM HPc HPt k9
      have g0 := HFx.out.c0
      have g1 := HFx.out.c1
      generalize (wA.setCell ⟨w3.heap.size, 0, none⟩ (.int .i64 p)).setCell ⟨w3.heap.size, 1, none⟩ (.int .i64 q) = w6 at *
      cases hpz : (p == 0 && q == 0) with
      | false =>
       clear HSm
       go_wp2_with fail
       go_roundw
       case rel => exact ⟨i + 1, by omega, by go_num, HP2, HWx⟩
       case measure => simp [intOf]; omega
      | true =>
       have HSx := (show Hid (∀ _ : Unit, Calls Tryz.prog 20 #[.slice Ap L.length cp, .slice A M.length c] w6 fun e w' => e = .returned (.bool false) /\ Below w6.heap.size w6 w') from fun _ => by
        have h := HSm.out w6 A M c HWx.out HRx.out HMl.out
        rw [HPq.out hpz] at h
        exact h)
       clear HSm
       go_wp2_with fail
       refine (HSx.out ()).mono ?_
       rintro e w7 ⟨rfl, b7⟩
       have HW7 : Hid (Below w.heap.size w w7) := HWx.out.trans (b7.mono HWx.out.size)
       clear b7 HSx HRx HFx g0 g1 HWx
       go_wp2_with fail
       go_roundw
       case rel => exact ⟨i + 1, by omega, by go_num, HP2, HW7⟩
       case measure => simp [intOf]; omega
    ·have v3 : ((s[i].toNat : Int) == 40) = false := by rw [<- hci]; exact bF h40
     clear hci h40 HOp HMt HPt HSm HP
     go_wp2_with fail
     go_roundw
     case rel => exact ⟨i + 1, by omega, by go_num, HP2, HW⟩
     case measure => simp [intOf]; omega
  ·have z1 : ¬ (i : Int) < (s.size : Int) := by omega
   clear HSt HOp HMt HSk HPt HSm HP
   go_wp2_with fail
   go_ret
   exact ⟨rfl, HW.out⟩
theorem zrC (L : List Nd) (Ap : Option Addr) (cp : Nat) (hL : L.length <= 140737488355328) (hT : ∀ n ∈ L, n.tx.size <= 140737488355328) (hw : ∀ n ∈ L, NdW n) (w : World) (hg : GW w) (hp : T.RdN w Ap L) : Calls Tryz.prog 7 #[.slice Ap L.length cp] w fun e w' => e = .returned (.bool true) /\ Below w.heap.size w w' := by
 by_cases hc : (T.ck L).2 = 0
 ·have hr := T.zjX hc
  by_cases hl : 65536 < (itT (shI L)).length
  ·exact zoN L Ap cp hL hT hw w hp 2 (by decide) (by rw [zlL hr, znH hl])
  ·by_cases hb : 1500 < (txO (itT (shI L))).size
   ·exact zrB L Ap cp hL hT hw w hp _ hb (by rw [zlL hr, zoJ hl])
   ·exact few_go L Ap cp hr hw w hg hp _ rfl hb
 ·exact zoN L Ap cp hL hT hw w hp _ hc (by unfold shR; rw [if_neg hc])
theorem nw_of {n : Nd} (h : T.SeW n) : NdW n := ⟨h.1, h.2.1, h.2.2.1, h.2.2.2⟩
end Go.Proofs.YtnpifgcgjgddoaaGreatDoor.N
namespace Go.Proofs.YtnpifgcgjgddoaaGreatDoor
open Go.ChangeShapes Go.WideShapes Go.ChangeAt Go.RowKit
open Go.ChangeMaps (open_string shut_string)
theorem zdV (H : Type) (enc : TypeId × Value -> H) (W : World) (base : Nat) (args : Array Value) (ds gs : List (DataW H)) (before : List MemPlace)
  (hval0 : ∀ (j : Nat) t v, Tryz.f7.params[j]? = some t -> args[j]? = some v -> Value.okWide Tryz.prog W .any base t v)
  (hW : DataW.Whole enc Tryz.prog Tryz.f7.params.toList Rows.showFewSpec.vars false W args.toList ds gs before) (hvb : N.GW W)
  (hsz : (DataW.weightsEach Tryz.prog (Tryz.f7.params.toList ++ (OpenSpec.ofChange Rows.showFewSpec).bare.plain.varTypes Tryz.prog) (ds ++ gs)).all (· <= reachBytes) = true) :
  Calls Tryz.prog 7 args W fun e W' => ∃ v, e = .returned v /\ Rows.showFewSpec.post enc Tryz.prog Tryz.f7 false true false false W args v W' := by
 have hval : ∀ (j : Nat) t v, Tryz.f7.params[j]? = some t -> args[j]? = some v -> Value.okWide Tryz.prog W .any base t v := hval0
 have hW' := hW
 obtain ⟨p, q, hA0, hV, rfl, hfz, hnd⟩ := hW
 have hA : DataW.TrodAll enc Tryz.prog W 0 (fun _ => true) true Tryz.f7.params.toList args.toList ds p := hA0
 rw [Tryz.params7] at hA hval hsz
 obtain ⟨v0, d0, rfl, rfl, h0⟩ := trodAll_one hA
 obtain ⟨rfl, rfl⟩ := trodVars_none hV
 have lt0 : ∀ x ∈ p, x.block < W.heap.size := by obtain ⟨m, hm⟩ := h0; exact DataW.trod_lt m _ _ _ hm
 obtain ⟨A0, c0, L0, rfl, r0, nl0, s0, w0⟩ := T.znl h0 (okWide_slice Tryz.underlying23 (hval 0 23 v0 rfl rfl))
 obtain ⟨a0, b0⟩ := s0 (T.znk hsz (j := 0) rfl rfl)
 clear hA0 hval0
 refine (N.zrC L0 A0 c0 (by omega) (fun n hn => by have := b0 n hn; omega) (fun n hn => N.nw_of (w0 n hn)) W hvb r0).mono fun e W' ⟨he, bel⟩ => ?_
 subst he
 exact ⟨_, rfl, _, _, _, [], _, [], hW', trodAll_mk1 (shut_bool Tryz.underlying4 _), (trodAll_cons_mk (Below.trod zqC (by kernel_rfl) (of_decide_eq_true (by kernel_rfl)) h0 bel lt0) trodAll_mk0), rfl, bel.frame _, fun h => by cases h⟩
theorem zh1 (os : Os) : laidMet Tryz.prog Rows.showFewRow.laid ((zln (World.holding Tryz.prog os ⟨#[], #[], []⟩)).forCall (fun _ _ => 0) ⟨#[], #[.slice none 0 0], []⟩).memory :=
 laidMet_of_run' 8 (by kernel_rfl) (by kernel_rfl)
theorem zgf (os : Os) {H : Type} (enc : TypeId × Value -> H) : ∃ places, DataW.whole enc Tryz.prog ((zln (World.holding Tryz.prog os ⟨#[], #[], []⟩)).forCall (fun _ _ => 0) ⟨#[], #[.slice none 0 0], []⟩).memory Tryz.f7.params.toList Rows.showFewSpec.vars false (#[.slice none 0 0] : Array Value).toList 8 = some ([.nil], [], places) :=
 ⟨[], by kernel_rfl⟩
theorem zfb (os : Os) (started : os.Started) (H : Type) (enc : TypeId × Value -> H) (F : Stop.Interp) :
  ReturnsInHanded {} Tryz.checked os 7 .any ((OpenSpec.ofChange Rows.showFewSpec).preRow enc Tryz.prog Tryz.f7 Rows.showFewRow.domain false Rows.showFewRow.laid) (((OpenSpec.ofChange Rows.showFewSpec).at F).post enc Tryz.prog Tryz.f7 false true false false) := by
 obtain ⟨places, hx⟩ := zgf os enc
 refine returnsInHanded_of_row (C := Tryz.checked) (s := OpenSpec.ofChange Rows.showFewSpec) own started (by kernel_rfl) Tryz.func7
  (witness_row_at (enc := enc) (C := Tryz.checked) false (zln (World.holding Tryz.prog os ⟨#[], #[], []⟩)) #[.slice none 0 0] rfl (by kernel_rfl) (by kernel_rfl) (by kernel_rfl)
   (OpenSpec.preRow_of_cond 8 hx (by kernel_rfl) (fun k hk => by cases hk) (by kernel_rfl) (zh1 os))) ?_
 intro W base args ds gs before hval hW _ hcond hsz hL _ _
 exact zdV H enc W base args ds gs before hval hW (zjx hL) hsz
theorem zh2 : Rows.ShowFewSaid :=
 OpenClaim.holds_of_cond 7 Tryz.f7 rfl rfl rfl rfl rfl rfl rfl ⟨rfl, rfl, rfl, rfl, rfl⟩ rfl rfl rfl rfl rfl (by kernel_rfl) Tryz.func7 (by kernel_rfl)
  (of_decide_eq_true (by kernel_rfl)) (by unfold Func.isWrapper; first | (rw [if_pos (by decide +kernel)]; kernel_rfl) | (rw [if_neg (by decide +kernel)]; exact ⟨rfl, rfl⟩))
  (fun os started H enc _ F => by rw [OpenClaim.pre_eq_preRow]; exact zfb os started H enc F)
theorem zgg (f : FuncId) (fn : Func) (hf : Tryz.pinned.checked.prog.funcNamed "harrow/harrowlaw07.ShowFew" = some f) (hfn : Tryz.pinned.checked.prog.funcs[f]? = some fn) :
  true = Tryz.pinned.checked.prog.looks [] /\ ∀ (j : Nat) t, fn.params[j]? = some t -> Tryz.pinned.checked.prog.wantsStandIn t = false := by
 obtain rfl : f = 7 := Option.some.inj ((show Tryz.prog.funcNamed "harrow/harrowlaw07.ShowFew" = some 7 by kernel_rfl).symm.trans hf) |>.symm
 obtain rfl : fn = Tryz.f7 := (Option.some.inj (Tryz.func7.symm.trans hfn)).symm
 refine ⟨by kernel_rfl, fun j t ht => ?_⟩
 rw [Tryz.params7] at ht
 have hm : t ∈ [23] := by simpa using Array.mem_of_getElem? ht
 have hall : ([23].all fun u => !Tryz.prog.wantsStandIn u) = true := by kernel_rfl
 exact (show Tryz.prog.wantsStandIn t = false by simpa using List.all_eq_true.1 hall t hm)
theorem showFew_holds : Rows.ShowFewCardSaid :=
 Claim7.holds_tied_plain_at .later [] _ _ _ _ zh2 (fun _ h => by cases h) (by kernel_rfl) (fun _ h => by cases h) showFew_row_tie rfl ⟨rfl, rfl⟩ (by kernel_rfl) rfl zgg (by kernel_rfl)
end Go.Proofs.YtnpifgcgjgddoaaGreatDoor
