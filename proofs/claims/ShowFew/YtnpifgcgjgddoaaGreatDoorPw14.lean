/- DERIVED. Plain mathematics and walks, laid together (14). -/
import Derived.BigQuiet
import Derived.Lib.ItoaNum
import Derived.Lib.Builder
import Derived.RangeFuncBox
import Derived.Laws.OwnMore
import Derived.Deep.RegionHeld3
import Derived.Test.YtnpifgcgjgddoaaGreatDoorPw13
set_option maxRecDepth 100000
set_option maxHeartbeats 8000000
namespace Go.Proofs.YtnpifgcgjgddoaaGreatDoor
open Go.RowKit
theorem sg_one {c0 c1 c1' : Int} (h : (sgC c0 c1).2.length = 1) (h2 : (sgC c0 c1).1 ≠ 13) (hc : c1' = c1 ∨ (c1' ≠ 58 /\ c1' ≠ 124 /\ c1' ≠ 126)) : sgC c0 c1' = sgC c0 c1 := by
 rcases hc with rfl | ⟨q1, q2, q3⟩
 ·rfl
 unfold sgC at h h2 ⊢
 by_cases h37 : c0 = 37
 ·subst h37
  by_cases a101 : c1 = 101 <;> by_cases a102 : c1 = 102 <;> simp_all
 by_cases h94 : c0 = 94
 ·subst h94
  by_cases a43 : c1 = 43 <;> by_cases a45 : c1 = 45 <;> simp_all
 by_cases h60 : c0 = 60
 ·subst h60
  by_cases a45 : c1 = 45 <;> simp_all
 by_cases h45 : c0 = 45
 ·subst h45
  by_cases a62 : c1 = 62 <;> simp_all
 by_cases h47 : c0 = 47
 ·subst h47
  simp
 by_cases h38 : c0 = 38
 ·subst h38
  simp
 by_cases h33 : c0 = 33
 ·subst h33
  simp
 by_cases h63 : c0 = 63
 ·subst h63
  simp
 by_cases h42 : c0 = 42
 ·subst h42
  simp
 by_cases h43 : c0 = 43
 ·subst h43
  simp
 by_cases h40 : c0 = 40
 ·subst h40
  simp
 by_cases h41 : c0 = 41
 ·subst h41
  simp
 by_cases h46 : c0 = 46
 ·subst h46
  simp
 by_cases h123 : c0 = 123
 ·subst h123
  by_cases a58 : c1 = 58 <;> by_cases a124 : c1 = 124 <;> by_cases a126 : c1 = 126 <;> simp_all
 by_cases h58 : c0 = 58
 ·subst h58
  by_cases a125 : c1 = 125 <;> simp_all
 by_cases h124 : c0 = 124
 ·subst h124
  by_cases a125 : c1 = 125 <;> simp_all
 by_cases h126 : c0 = 126
 ·subst h126
  by_cases a125 : c1 = 125 <;> simp_all
 by_cases h125 : c0 = 125
 ·subst h125
  simp
 simp [*]
theorem zqk (c0 c1 : Int) : (sgC c0 c1).1 = 0 ∨ (sgC c0 c1).2.length = 1 ∨ (sgC c0 c1).2.length = 2 := by
 have h : ∀ l : List (Int × List UInt8), (∀ p ∈ l, p.2.length = 1 ∨ p.2.length = 2) -> (zc1 c0 c1 l).1 = 0 ∨ (zc1 c0 c1 l).2.length = 1 ∨ (zc1 c0 c1 l).2.length = 2 := by
  intro l
  induction l with
  | nil => intro _; exact .inl rfl
  | cons p l ih =>
   intro h
   rw [zc1]
   split
   ·exact .inr (h p (List.mem_cons_self ..))
   ·exact ih (fun q hq => h q (List.mem_cons_of_mem _ hq))
 rw [<- ziw]
 exact h sgTab (by decide)
theorem sg21 {c0 c1 : Int} (h : (sgC c0 c1).1 = 21) : (sgC c0 c1).2.length = 2 := by
 have key : ∀ l : List (Int × List UInt8), (∀ p ∈ l, p.1 = 21 -> p.2.length = 2) -> (zc1 c0 c1 l).1 = 21 -> (zc1 c0 c1 l).2.length = 2 := by
  intro l
  induction l with
  | nil => intro _ q; cases q
  | cons p l ih =>
   intro h
   rw [zc1]
   split
   ·exact h p (List.mem_cons_self ..)
   ·exact ih (fun q hq => h q (List.mem_cons_of_mem _ hq))
 rw [<- ziw] at h ⊢
 exact key sgTab (by decide) h
theorem zm6 {s s' : ByteArray} {b b' d d' m : Nat} {t : Tk} (_hd : d <= s.size) (h : zck s b d = .inl t) (he : t.en = (d + m : Nat)) (ha : Ag s d s' d' m) (hf : Fol s (d + m) s' (d' + m)) : zck s' b' d' = .inl { t with fr := b', en := (d' + m : Nat) } := by
 unfold zck at h ⊢
 have hsp := zbs nmB s (by decide) d
 split at h
 ·next q1 =>
  split at h
  ·cases h
  next q2 =>
  split at h
  ·next q3 =>
   cases h
   dsimp only at he
   have hlt := zaD (s := s) (i := spN nmB s d) (by omega)
   have hm : spN nmB s d + 1 = d + m := by omega
   have hm2 : spN nmB s d = d + (m - 1) := by omega
   have h58 : chr s' (d' + (m - 1)) = 58 := by rw [ha (m - 1) (by omega), <- hm2]; exact q3
   have h1 : spN nmB s' d' = d' + (m - 1) := zcU (P := nmB) (by decide) (fun k hk => ha k (by omega)) hm2 (by rw [h58]; rfl)
   have hnx := (zbr (P := nmB) (s := s) (i := d) (by decide) (by unfold nmB; rw [q1]; rfl)).2
   have hnx2 := zbs nmB s (by decide) (d + 1)
   have h0 := ha 0 (by omega)
   rw [Nat.add_zero, Nat.add_zero] at h0
   have htx : s'.extract d' (d' + (m - 1)) = s.extract d (d + (m - 1)) := zeu (fun k hk => ha k (by omega)) (by omega) (by have := ha.in (by omega) (by omega); omega)
   rw [h0, if_pos q1, h1, show d' + (m - 1) - d' = spN nmB s d - d from by omega, if_neg q2, h58, if_pos rfl, htx, <- hm2, show d' + (m - 1) + 1 = d' + m from by omega]
  ·next q3 =>
   cases h
   dsimp only at he
   obtain rfl : m = 0 := by omega
   rw [Nat.add_zero, Nat.add_zero] at hf
   rcases hf with hf | ⟨e0, hr⟩
   ·rw [if_neg (by rw [(zqj (zbR hf).1).2]; decide)]; rfl
   ·obtain ⟨r, r1, r2, r3⟩ := hr q1
    rw [e0, if_pos q1, r2, show d' + r - d' = spN nmB s d - d from by omega, if_neg q2, if_neg (fun q => q3 (by rw [r1]; exact r3 q))]
    rfl
 ·next q1 =>
  cases h
  dsimp only at he
  obtain rfl : m = 0 := by omega
  rw [Nat.add_zero, Nat.add_zero] at hf
  rcases hf with hf | ⟨e0, hr⟩
  ·rw [if_neg (by rw [(zqj (zbR hf).1).2]; decide)]; rfl
  ·rw [e0, if_neg q1]; rfl
theorem zix {s s' : ByteArray} {b b' m : Nat} {t : Tk} (hb : b <= s.size) (h : zbm s b = .inl t) (he : t.en = (b + m : Nat)) (ha : Ag s b s' b' m) (hf : Fol s (b + m) s' (b' + m)) : zbm s' b' = .inl (mvT t b' m) /\ (zak s' b').1 = (zak s b).1 := by
 have hlen := zbC s b hb
 have hpos := zin s b
 have h12 := zqk (chr s b) (chr s (b + 1))
 rw [<- za9] at h12
 have key : 2 <= m -> zak s' b' = zak s b := fun q => by
  have h0 := ha 0 (by omega)
  rw [Nat.add_zero, Nat.add_zero] at h0
  rw [za9, za9, h0, ha 1 (by omega)]
 unfold zbm at h
 split at h
 ·cases h
 next q0 =>
 split at h
 ·next q1 =>
  obtain ⟨e, a1, a2, a3⟩ := zim hlen h
  have hsp : spN dgB s (b + (zak s b).2.length) = b + m := by
   unfold nmR at h
   cases hn : zdd s (b + (zak s b).2.length) (gtK (zak s b).1) with
   | inr e => rw [hn] at h; cases h
   | inl n => rw [hn] at h; cases h; dsimp only at he; omega
  have hk := key (by omega)
  refine ⟨?_, by rw [hk]⟩
  unfold zbm
  rw [hk, if_neg q0, if_pos q1]
  have hst := (za8 dgB s (by decide) _ (b + (zak s b).2.length) rfl).2.2.1
  rw [hsp] at hst
  have := zhO (b' := b') (d' := b' + (zak s b).2.length) (m := m - (zak s b).2.length) h (by omega) (ha.sub _ (by omega)) (by
   rw [show b' + (zak s b).2.length + (m - (zak s b).2.length) = b' + m from by omega]; exact hf.dg hst)
  rw [this, show b' + (zak s b).2.length + (m - (zak s b).2.length) = b' + m from by omega]
  rfl
 next q1 =>
 split at h
 ·next q2 =>
  have hl2 : (zak s b).2.length = 2 := by rw [za9] at q2 ⊢; exact sg21 q2
  obtain ⟨e, a1, a2, a3⟩ := zhH hlen h
  have hk := key (by omega)
  refine ⟨?_, by rw [hk]⟩
  unfold zbm
  rw [hk, if_neg q0, if_neg q1, if_pos q2]
  have := zm6 (b' := b') (d' := b' + (zak s b).2.length) (m := m - (zak s b).2.length) hlen h (by rw [he]; omega) (ha.sub _ (by omega)) (by
   rw [show b + (zak s b).2.length + (m - (zak s b).2.length) = b + m from by omega, show b' + (zak s b).2.length + (m - (zak s b).2.length) = b' + m from by omega]; exact hf)
  rw [this, show b' + (zak s b).2.length + (m - (zak s b).2.length) = b' + m from by omega]
  rfl
 ·next q2 =>
  cases h
  dsimp only at he
  have hm : m = (zak s b).2.length := by omega
  have hk : zak s' b' = zak s b := by
   rcases h12 with h12 | h12 | h12
   ·exact absurd h12 q0
   ·have hm1 : m = 1 := by omega
    subst hm1
    have h0 := ha 0 (by omega)
    rw [Nat.add_zero, Nat.add_zero] at h0
    rw [za9, za9, h0]
    refine sg_one (by rw [<- za9]; exact h12) (by rw [<- za9]; omega) ?_
    rcases hf with hf | ⟨e0, _⟩
    ·have := zbR hf; exact .inr ⟨this.2.1, this.2.2.2.1, this.2.2.2.2⟩
    ·exact .inl e0
   ·exact key (by omega)
  refine ⟨?_, by rw [hk]⟩
  unfold zbm
  rw [hk, if_neg q0, if_neg q1, if_neg q2, <- hm]
  rfl
theorem zk1 {s s' : ByteArray} {b b' n : Nat} {x : BitVec 256} (h : zal s b = .inl (x, n)) (ha : Ag s b s' b' (n - b)) : zal s' b' = .inl (x, b' + (n - b)) := by
 have hgt := zgO h
 have hok := zgK h
 have hin := ha.in (by omega) (by omega)
 unfold zal at h ⊢
 rw [Int.toNat_natCast] at h ⊢
 split at h
 ·cases h
 split at h
 ·next q1 =>
  have h0 := ha 0 (by omega)
  rw [Nat.add_zero, Nat.add_zero] at h0
  rw [if_neg (by omega), h0, if_pos q1]
  split at h
  ·next q2 =>
   cases hm : zab s (s.size + 1) 0#256 (b + 2) with
   | inr p => obtain ⟨a, c⟩ := p; rw [hm] at h; cases h
   | inl p =>
    obtain ⟨y, k⟩ := p
    rw [hm] at h
    cases h
    have hb := zaK hm
    rw [ha 1 (by omega), if_pos q2]
    have := zdO s s' _ (s'.size + 1) _ _ _ (b' + 2) (k + 1 - b - 2) _ hm (ha.sub 2 (by omega)) (by omega) (by omega)
    rw [this, zdL, show b' + 2 + (k - (b + 2)) + 1 = b' + (k + 1 - b) from by omega]
  ·next q2 =>
   cases hm : zab s (s.size + 1) 0#256 (b + 1) with
   | inr p => obtain ⟨a, c⟩ := p; rw [hm] at h; cases h
   | inl p =>
    obtain ⟨y, k⟩ := p
    rw [hm] at h
    cases h
    have hb := zaK hm
    rw [ha 1 (by omega), if_neg q2]
    have := zdO s s' _ (s'.size + 1) _ _ _ (b' + 1) (k + 1 - b - 1) _ hm (ha.sub 1 (by omega)) (by omega) (by omega)
    rw [this, zfW, show b' + 1 + (k - (b + 1)) + 1 = b' + (k + 1 - b) from by omega]
 ·cases h
theorem zm7 {s s' : ByteArray} {b b' m : Nat} {t : Tk} (hb : b <= s.size) (h37 : chr s b = 37) (h : zcp s b = .inl t) (he : t.en = (b + m : Nat)) (ha : Ag s b s' b' m) (hf : Fol s (b + m) s' (b' + m)) : zcp s' b' = .inl (mvT t b' m) := by
 have hen := zkO hb h
 obtain ⟨e, x1, x2, x3⟩ := hen
 have h0 := ha 0 (by omega)
 rw [Nat.add_zero, Nat.add_zero] at h0
 unfold zcp at h
 split at h
 ·next q1 =>
  have hl : b + 3 <= s.size := zfT hb q1
  have hm := zkN hl h
  have := zm5 hl h he ha
  have hp : pfx s' b' [37, 117, 123] = true := by
   obtain ⟨e2, y1, y2, y3⟩ := hm
   have h3 : 3 <= m := by
    have hmm := this
    unfold zbQ at h
    split at h
    ·cases h
    have hpt := zbH hl
    split at h
    ·next h45 =>
     have h2 := zaD (s := s) (i := (ptP s (b + 3)).2.1) (by omega)
     have h3 := zbH (s := s) (a := (ptP s (b + 3)).2.1 + 1) (by omega)
     split at h
     ·cases h
     split at h
     ·cases h; dsimp only at he; omega
     ·cases h
    ·split at h
     ·cases h; dsimp only at he; omega
     ·cases h
   have e0 : pfx s' b' [37, 117, 123] = pfx s b [37, 117, 123] := by
    show (chr s' b' == 37 && (chr s' (b' + 1) == 117 && (chr s' (b' + 1 + 1) == 123 && true))) = (chr s b == 37 && (chr s (b + 1) == 117 && (chr s (b + 1 + 1) == 123 && true)))
    rw [h0, ha 1 (by omega), show b' + 1 + 1 = b' + 2 from rfl, ha 2 (by omega)]
   rw [e0]; exact q1
  unfold zcp
  rw [if_pos hp]
  exact this
 next q1 =>
 have hq : ∀ m2, m2 = m -> 2 <= m2 -> (m2 = 2 ∨ chr s (b + 1) ≠ 117) -> pfx s' b' [37, 117, 123] = false := fun m2 em h2 hor => by
  subst em
  have q1 : pfx s b [37, 117, 123] = false := by cases hh : pfx s b [37, 117, 123]; rfl; exact absurd hh q1
  show (chr s' b' == 37 && (chr s' (b' + 1) == 117 && (chr s' (b' + 1 + 1) == 123 && true))) = false
  have q1 : (chr s b == 37 && (chr s (b + 1) == 117 && (chr s (b + 1 + 1) == 123 && true))) = false := q1
  rw [h0, h37, ha 1 (by omega)]
  rw [h37] at q1
  by_cases u : chr s (b + 1) = 117
  ·rw [u] at q1 ⊢
   have c1 : ¬ chr s (b + 2) = 123 := by simpa using q1
   have c2 : ¬ chr s' (b' + 2) = 123 := by
    rcases hor with hor | hor
    ·subst hor
     rcases hf with hf | ⟨e0, _⟩
     ·exact (zbR hf).2.2.1
     ·rw [e0]; exact c1
    ·exact absurd u hor
   simpa using c2
  ·rw [bF u]; simp
 split at h
 ·next q2 =>
  have hs2 := zix hb h he ha hf
  have h2 : (zak s b).2.length = 2 /\ chr s (b + 1) ≠ 117 := by
   rw [za9, h37] at q2 ⊢
   unfold sgC at q2 ⊢
   rw [if_pos rfl] at q2 ⊢
   by_cases u1 : chr s (b + 1) = 101
   ·rw [if_pos u1]; exact ⟨rfl, by omega⟩
   ·rw [if_neg u1] at q2 ⊢
    by_cases u2 : chr s (b + 1) = 102
    ·rw [if_pos u2]; exact ⟨rfl, by omega⟩
    ·rw [if_neg u2] at q2; exact absurd rfl q2
  have hm2 : 2 <= m := by
   have hl := zbC s b hb
   have hsg := zhI hb h
   unfold zbm at h
   split at h
   ·cases h
   split at h
   ·obtain ⟨e, a1, a2, a3⟩ := zim hl h; omega
   split at h
   ·obtain ⟨e, a1, a2, a3⟩ := zhH hl h; omega
   ·cases h; dsimp only at he; omega
  unfold zcp
  rw [if_neg (by rw [hq m rfl hm2 (.inr h2.2)]; decide), if_pos (by rw [hs2.2]; exact q2)]
  exact hs2.1
 next q2 =>
 split at h
 ·next q3 =>
  cases h
  dsimp only at he
  have hm2 : m = 2 := by omega
  subst hm2
  have hin := ha.in (by omega) (by omega)
  have e1 := ha 1 (by omega)
  have hsg : zak s' b' = zak s b := by rw [za9, za9, h0, e1]
  have htx : s'.extract (b' + 1) (b' + 2) = s.extract (b + 1) (b + 2) := zeu (m := 1) (ha.sub 1 (by omega)) (by omega) (by omega)
  unfold zcp
  rw [if_neg (by rw [hq 2 rfl (by omega) (.inl rfl)]; decide), hsg, if_neg q2, e1, if_pos ⟨by omega, q3.2⟩, htx]
  rfl
 ·cases h
theorem zm8 {s s' : ByteArray} {b b' m : Nat} {t : Tk} (hb : b < s.size) (h : zaA s b = .inl t) (he : t.en = (b + m : Nat)) (ha : Ag s b s' b' m) (hf : Fol s (b + m) s' (b' + m)) : zaA s' b' = .inl (mvT t b' m) := by
 obtain ⟨e, x1, x2, x3⟩ := zf1 s b t hb h
 have h1 : 1 <= m := by omega
 have hin := ha.in h1 (by omega)
 have h0 := ha 0 (by omega)
 rw [Nat.add_zero, Nat.add_zero] at h0
 unfold zaA at h ⊢
 rw [h0]
 split at h
 ·next q =>
  rw [if_pos q]
  have hm : spN nmB s b = b + m := by
   unfold zb0 at h
   split at h
   ·cases h
   ·cases h; dsimp only at he; omega
  have hst := (za8 nmB s (by decide) _ b rfl).2.2.1
  rw [hm] at hst
  exact zk0 h hm h1 (by omega) ha (hf.nm hst)
 next q0 =>
 rw [if_neg q0]
 split at h
 ·next q =>
  rw [if_pos q]
  have hm : spN dgB s b = b + m := by
   unfold nmR at h
   cases hn : zdd s b (gtK 4) with
   | inr e => rw [hn] at h; cases h
   | inl n => rw [hn] at h; cases h; dsimp only at he; omega
  have hst := (za8 dgB s (by decide) _ b rfl).2.2.1
  rw [hm] at hst
  exact zhO h hm ha (hf.dg hst)
 next q1 =>
 rw [if_neg q1]
 split at h
 ·next q =>
  rw [if_pos q]
  unfold zeU at h ⊢
  rw [h0]
  have hge := zdq s _ b (by omega) _ _ _ _ h
  obtain ⟨e2, y1, y2, y3⟩ := hge
  have := zm3 s s' (chr s b) b b' (by omega) _ (s'.size + 1) [] (b + 1) (b' + 1) (m - 1) t (b + m) h he (by omega) (ha.sub 1 (by omega)) (by omega)
  rw [this, show b' + 1 + (m - 1) = b' + m from by omega]
  rfl
 next q2 =>
 rw [if_neg q2]
 split at h
 ·next q =>
  rw [if_pos q]
  cases hr : zal s b with
  | inr p =>
   rw [hr, clT] at h
   split at h <;> cases h
  | inl p =>
   obtain ⟨x, n⟩ := p
   rw [hr] at h
   cases h
   dsimp only at he
   have hn : n - b = m := by omega
   rw [zk1 hr (by rw [hn]; exact ha), hn]
   rfl
 next q3 =>
 rw [if_neg q3]
 split at h
 ·next q => rw [if_pos q]; exact zm7 (by omega) q h he ha hf
 ·next q => rw [if_neg q]; exact (zix (by omega) h he ha hf).1
theorem zm9 (s : ByteArray) (q : Int) (b : Nat) : ∀ (f : Nat) (out : List Int) (i : Nat) (t : Tk), zbF s q b f out i = .inl t -> t.fr = b := by
 intro f
 induction f with
 | zero => intro out i t h; rw [zbF] at h; cases h
 | succ f ih =>
  intro out i t h
  rw [zbF] at h
  split at h
  ·cases h
  split at h
  ·split at h
   ·cases h
   ·cases h; rfl
  split at h
  ·cases h
  split at h
  ·exact ih _ _ _ h
  ·split at h
   ·cases h
   ·exact ih _ _ _ h
theorem zom {s : ByteArray} {b d : Nat} {k : Int} {t : Tk} (h : nmR s b d k = .inl t) : t.fr = b := by
 unfold nmR at h
 cases hn : zdd s d (gtK k) with
 | inr e => rw [hn] at h; cases h
 | inl n => rw [hn] at h; cases h; rfl
theorem zql {s : ByteArray} {b d : Nat} {t : Tk} (h : zck s b d = .inl t) : t.fr = b := by
 unfold zck at h
 split at h
 ·split at h
  ·cases h
  ·split at h <;> (cases h; rfl)
 ·cases h; rfl
theorem zk2 {s : ByteArray} {b : Nat} {t : Tk} (h : zbm s b = .inl t) : t.fr = b := by
 unfold zbm at h
 split at h
 ·cases h
 split at h
 ·exact zom h
 split at h
 ·exact zql h
 ·cases h; rfl
theorem zqm {s : ByteArray} {b : Nat} {t : Tk} (h : zbQ s b = .inl t) : t.fr = b := by
 unfold zbQ at h
 split at h
 ·cases h
 split at h
 ·split at h
  ·cases h
  split at h
  ·cases h; rfl
  ·cases h
 ·split at h
  ·cases h; rfl
  ·cases h
theorem zqn {s : ByteArray} {b : Nat} {t : Tk} (h : zaA s b = .inl t) : t.fr = b := by
 unfold zaA at h
 split at h
 ·unfold zb0 at h
  split at h
  ·cases h
  ·cases h; rfl
 split at h
 ·exact zom h
 split at h
 ·exact zm9 _ _ _ _ _ _ _ h
 split at h
 ·cases hr : zal s b with
  | inr p =>
   rw [hr, clT] at h
   split at h <;> cases h
  | inl p => rw [hr] at h; cases h; rfl
 split at h
 ·unfold zcp at h
  split at h
  ·exact zqm h
  split at h
  ·exact zk2 h
  split at h
  ·cases h; rfl
  ·cases h
 ·exact zk2 h
def Chn (s : ByteArray) (i : Nat) : List Tk -> Prop
 | [] => zb5 s i = s.size
 | t :: l => zb5 s i < s.size /\ zaA s (zb5 s i) = .inl t /\ ∃ e : Nat, t.en = e /\ zb5 s i < e /\ e <= s.size /\ Chn s e l
theorem chn_of (s : ByteArray) : ∀ (f : Nat) (out : List Tk) (i : Nat) (l : List Tk), i <= s.size -> s.size < f + zb5 s i -> zcX (zaA s) s f out (zb5 s i) = .inl l -> ∃ l2, l = out ++ l2 /\ Chn s i l2 := by
 intro f
 induction f with
 | zero => intro out i l hi hf h; have := (zc8 hi).2; omega
 | succ f ih =>
  intro out i l hi hf h
  have hb := zc8 hi
  rw [zcX] at h
  by_cases hlt : zb5 s i < s.size
  ·rw [if_pos hlt] at h
   cases ho : zaA s (zb5 s i) with
   | inr q => rw [ho] at h; cases h
   | inl t =>
    rw [ho] at h
    dsimp only at h
    obtain ⟨e, e1, e2, e3⟩ := zf1 s _ t hlt ho
    rw [e1, Int.toNat_natCast] at h
    have hge := zhM s e e3
    obtain ⟨l2, h2, h3⟩ := ih (out ++ [t]) e l e3 (by omega) h
    refine ⟨t :: l2, by rw [h2, List.append_assoc]; rfl, hlt, ho, e, e1, e2, e3, h3⟩
  ·rw [if_neg hlt] at h
   cases h
   exact ⟨[], by rw [List.append_nil], by show zb5 s i = s.size; omega⟩
theorem zqo (s : ByteArray) : ∀ (l : List Tk) (f : Nat) (out : List Tk) (i : Nat), i <= s.size -> s.size < f + zb5 s i -> Chn s i l -> zcX (zaA s) s f out (zb5 s i) = .inl (out ++ l) := by
 intro l
 induction l with
 | nil =>
  intro f out i hi hf h
  have h : zb5 s i = s.size := h
  cases f with
  | zero => omega
  | succ f => rw [zcX, if_neg (by omega), List.append_nil]
 | cons t l ih =>
  intro f out i hi hf h
  obtain ⟨h1, h2, e, e1, e2, e3, h3⟩ := h
  cases f with
  | zero => omega
  | succ f =>
   have hge := zhM s e e3
   rw [zcX, if_pos h1, h2]
   dsimp only
   rw [e1, Int.toNat_natCast, ih f (out ++ [t]) e e3 (by omega) h3, List.append_assoc]
   rfl
theorem zhQ {s : ByteArray} {l : List Tk} (h : zcA (zaA s) s = .inl l) : s.size <= 65536 /\ Chn s 0 l := by
 unfold zcA at h
 split at h
 ·cases h
 ·next q =>
  obtain ⟨l2, h2, h3⟩ := chn_of s _ _ 0 l (by omega) (by have := (zc8 (s := s) (i := 0) (by omega)).1; omega) h
  rw [h2]
  exact ⟨by omega, h3⟩
theorem zjq {s : ByteArray} {l : List Tk} (hs : s.size <= 65536) (h : Chn s 0 l) : zcA (zaA s) s = .inl l := by
 unfold zcA
 rw [if_neg (by omega), zqo s l _ [] 0 (by omega) (by have := (zc8 (s := s) (i := 0) (by omega)).1; omega) h]
 rfl
theorem zk3 {s : ByteArray} {b m : Nat} {t : Tk} (h45 : chr s b = 45) (h : zaA s b = .inl t) (he : t.en = (b + m : Nat)) : m = 2 := by
 unfold zaA at h
 rw [h45, if_neg (by decide), if_neg (by decide), if_neg (by decide), if_neg (by decide), if_neg (by decide)] at h
 unfold zbm at h
 rw [za9, h45] at h
 have e : sgC 45 (chr s (b + 1)) = if chr s (b + 1) = 62 then (27, [45, 62]) else (0, []) := by
  unfold sgC
  rw [if_neg (by decide), if_neg (by decide), if_neg (by decide), if_pos rfl]
 rw [e] at h
 by_cases q : chr s (b + 1) = 62
 ·rw [if_pos q] at h
  simp at h
  cases h
  dsimp only at he
  omega
 ·rw [if_neg q] at h
  simp at h
theorem zjr {s s' : ByteArray} {b b' m : Nat} {t : Tk} (hb : b < s.size) (hnb : ¬ (chr s b = 9 ∨ chr s b = 10 ∨ chr s b = 13 ∨ chr s b = 32)) (hnn : ¬ (chr s b = 45 /\ chr s (b + 1) = 45)) (h : zaA s b = .inl t) (he : t.en = (b + m : Nat)) (ha : Ag s b s' b' m) : zb5 s' b' = b' /\ b' < s'.size := by
 obtain ⟨e, x1, x2, x3⟩ := zf1 s b t hb h
 have hin := ha.in (by omega) (by omega)
 have h0 := ha 0 (by omega)
 rw [Nat.add_zero, Nat.add_zero] at h0
 refine ⟨?_, by omega⟩
 rw [zb9, if_pos (by omega), if_neg (fun q => ?_), if_neg (by rw [h0]; exact hnb)]
 have h45 : chr s b = 45 := by rw [<- h0]; exact q.1
 have hm := zk3 h45 h he
 exact hnn ⟨h45, by rw [<- ha 1 (by omega)]; exact q.2⟩
def zfo (s : ByteArray) : Bool := decide (0 < s.size) && decide (s.size <= 32) && hdB (chr s 0) && spN nmB s 0 == s.size
theorem ziy {s : ByteArray} (h : ¬ 0 < s.size) : s = ⟨#[]⟩ := by
 apply ByteArray.ext
 apply Array.eq_empty_of_size_eq_zero
 have : s.data.size = s.size := rfl
 omega
def txF (k : Int) (tx : ByteArray) : Bool := if k = 1 then zfo tx else if k = 21 then (tx.toList == []) || zfo tx else if k = 2 then decide ((tx.size : Int) <= 255) else if k = 28 then ((tx.size : Int) == 1) else (tx.toList == [])
def nbF (k n s0 : Int) : Bool := decide (0 <= n) && decide (n <= if k = 5 then s0 else gtK k)
def seF (k : Int) (tx : ByteArray) (s0 s1 s2 s3 : Int) : Bool := if k = 3 then true else if k = 28 then ((cls (chr tx 0).toNat).2 == 0) && (s0 == wd (cls (chr tx 0).toNat).1 0 && (s1 == wd (cls (chr tx 0).toNat).1 1 && (s2 == wd (cls (chr tx 0).toNat).1 2 && s3 == wd (cls (chr tx 0).toNat).1 3))) else if k = 5 then decide (s0 <= 1114111) && (s0 == s0 && (s1 == 0 && (s2 == 0 && s3 == 0))) else (s0 == 0 && (s1 == 0 && (s2 == 0 && s3 == 0)))
def riF (t : Tk) : Bool := decide (1 <= t.kd) && decide (t.kd <= 30) && txF t.kd t.tx && nbF t.kd t.nn t.s0 && seF t.kd t.tx t.s0 t.s1 t.s2 t.s3
structure TkB (t : Tk) : Prop where
 n : t.nn < 9223372036854775808
 u0 : 0 <= t.s0
 u1 : t.s0 < 18446744073709551616
 u2 : 0 <= t.s1 /\ t.s1 < 18446744073709551616
 u3 : 0 <= t.s2 /\ t.s2 < 18446744073709551616
 u4 : 0 <= t.s3 /\ t.s3 < 18446744073709551616
def dgs (b : Nat) : Nat -> Nat -> List UInt8
 | 0, _ => []
 | f + 1, n => if n < b then [zb4 n] else dgs b f (n / b) ++ [zb4 (n % b)]
def dgT (b n : Nat) : List UInt8 := dgs b (n + 1) n
theorem zdt {b n : Nat} (hb : 2 <= b) (h : ¬ n < b) : n / b < n := Nat.div_lt_self (by omega) hb
theorem zna (b : Nat) (hb : 2 <= b) : ∀ f g n, n < f -> n < g -> dgs b f n = dgs b g n := by
 intro f
 induction f with
 | zero => intro g n h; omega
 | succ f ih =>
  intro g n h1 h2
  cases g with
  | zero => omega
  | succ g =>
   unfold dgs
   by_cases h : n < b
   ·rw [if_pos h, if_pos h]
   ·have hd := zdt hb h
    rw [if_neg h, if_neg h, ih g (n / b) (by omega) (by omega)]
theorem zew {b n : Nat} (h : n < b) : dgT b n = [zb4 n] := by
 unfold dgT dgs
 rw [if_pos h]
theorem zgT {b n : Nat} (hb : 2 <= b) (h : ¬ n < b) : dgT b n = dgT b (n / b) ++ [zb4 (n % b)] := by
 have hd := zdt hb h
 have e : dgT b n = dgs b n (n / b) ++ [zb4 (n % b)] := by
  unfold dgT
  conv => lhs; unfold dgs
  rw [if_neg h]
 rw [e, zna b hb n (n / b + 1) (n / b) hd (by omega)]
 rfl
theorem ziz (b n : Nat) (hb : 2 <= b) : dgT b n ≠ [] := by
 by_cases h : n < b
 ·rw [zew h]; simp
 ·rw [zgT hb h]; simp
theorem zdG (b : Nat) (hb : 2 <= b) : ∀ (k n : Nat), n < b ^ (k + 1) -> (dgT b n).length <= k + 1 := by
 intro k
 induction k with
 | zero =>
  intro n h
  rw [zew (by simpa using h)]
  simp
 | succ k ih =>
  intro n h
  by_cases h1 : n < b
  ·rw [zew h1]; simp
  ·have h2 : n / b < b ^ (k + 1) := by
    rw [Nat.div_lt_iff_lt_mul (by omega), <- Nat.pow_succ]
    exact h
   rw [zgT hb h1, List.length_append, List.length_singleton]
   have := ih (n / b) h2
   omega
def gnm (s : ByteArray) : ByteArray := if s.size = 0 then ⟨#[]⟩ else s ++ ⟨#[58]⟩
end Go.Proofs.YtnpifgcgjgddoaaGreatDoor
namespace Go.Proofs.YtnpifgcgjgddoaaGreatDoor.Q
open Go.RowKit
theorem Tryz.sizeB : (Tryz.prog.info? 57).map (·.size) = some 2 := by kernel_rfl
theorem zcQ (b : Nat) (w : World) (h0 : w.cell? ⟨b, 0, none⟩ = some (.pointer (some ⟨b, 0, none⟩))) :
  Calls Tryz.prog 71 #[.pointer (some ⟨b, 0, none⟩)] w fun e w' => e = .returned (.tuple #[]) /\ w' = w := by
 obtain ⟨j, hj, hjs⟩ := Option.map_eq_some_iff.1 Tryz.sizeB
 go_enter Tryz.func71, Tryz.ntmps71
 go_wp2
 rw [Lib.run_neq_ptr_same w _ Tryz.underlying54 hj]
 go_wp2
 go_end0
 exact ⟨rfl, rfl⟩
theorem zc3 (b : Nat) (w : World) (h0 : w.cell? ⟨b, 0, none⟩ = some (.pointer none)) (hsh : w.shape? b = some (57, 2)) (hfz : w.frozen? ⟨b, 0, none⟩ = false) :
  Calls Tryz.prog 71 #[.pointer (some ⟨b, 0, none⟩)] w fun e w' => e = .returned (.tuple #[]) /\ w' = w.setCell ⟨b, 0, none⟩ (.pointer (some ⟨b, 0, none⟩)) := by
 obtain ⟨j, hj, hjs⟩ := Option.map_eq_some_iff.1 Tryz.sizeB
 go_enter Tryz.func71, Tryz.ntmps71
 go_wp2
 rw [Lib.run_to_unsafe w ⟨b, 0, none⟩ Tryz.underlying54 Tryz.underlying140 hj (by rw [hjs]; decide) hsh (Nat.zero_lt_succ 1)]
 simp only [Result.andThen]
 rw [Oper.upon_value]
 go_wp2
 rw [run_callFunc_extern Tryz.func94 (by kernel_rfl) (by kernel_rfl) (by kernel_rfl) (e := Extern.AbiNoEscape.same) (by kernel_rfl)]
 rw [Lib.run_noEscape]
 simp only [Result.andThen]
 rw [Oper.upon_value]
 go_wp2
 rw [Lib.run_from_unsafe w ⟨b, 0, none⟩ Tryz.underlying140 Tryz.underlying54 hj hsh (by kernel_rfl)]
 simp only [Result.andThen]
 rw [Oper.upon_value]
 go_wp2
 go_end0
 exact ⟨rfl, rfl⟩
structure KeepT (b : Nat) (w w' : World) : Prop where
 size : w.heap.size <= w'.heap.size
 block : ∀ k, k < w.heap.size -> k ≠ b -> (∀ c fr, w.heap[k]? ≠ some (.cells c 5 fr)) -> w'.heap[k]? = w.heap[k]?
theorem KeepT.refl (b : Nat) (w : World) : KeepT b w w := ⟨Nat.le_refl _, fun _ _ _ _ => rfl⟩
theorem KeepT.trans {b : Nat} {x y z : World} (h : KeepT b x y) (k : KeepT b y z) : KeepT b x z :=
 ⟨Nat.le_trans h.size k.size, fun j hj hb ht => by
  have e := h.block j hj hb ht
  exact (k.block j (Nat.lt_of_lt_of_le hj h.size) hb (fun c fr => by rw [e]; exact ht c fr)).trans e⟩
theorem KeepT.setCell (b j : Nat) (w : World) (u : Value) : KeepT b w (w.setCell ⟨b, j, none⟩ u) :=
 ⟨by simp [World.setCell], fun k _ hk _ => Below.heap_setCell _ _ _ _ hk⟩
theorem KeepT.alloc (b : Nat) (w : World) (o : Obj) : KeepT b w (w.alloc o) := ⟨by simp, fun k hk _ _ => Below.heap_alloc _ _ _ hk⟩
theorem KeepT.grown {b : Nat} {w w' : World} {base : Nat} {v : Value} {n : Nat} {xs : List Value} (ho : w.ownsRow base 5 1 v n xs) (hg : w.grownBy w' v.ownBlock) : KeepT b w w' :=
 ⟨hg.size, fun k hk _ ht => hg.block k hk (fun e => by
  rcases ho.2 with ⟨rfl, _⟩ | ⟨g, cap, cur, rfl, _, hgb, _⟩
  ·cases e
  ·obtain rfl : k = g := by simpa [Value.ownBlock] using e
   exact ht _ _ hgb)⟩
theorem zbb (b : Nat) (bs : List Value) (w : World) (h : Lib.IsBuilder 57 5 b b bs w) :
  Calls Tryz.prog 71 #[.pointer (some ⟨b, 0, none⟩)] w fun e w' => e = .returned (.tuple #[]) /\ Lib.BuilderAt 57 5 b b (.pointer (some ⟨b, 0, none⟩)) bs w' /\ Below b w w' /\ KeepT b w w' := by
 rcases h with h | h
 ·refine (zc3 b w h.cell0 h.shape h.frozen0).mono ?_
  rintro e w' ⟨rfl, rfl⟩
  exact ⟨rfl, h.used _, (Below.refl b w).setCell (p := ⟨b, 0, none⟩) h.1 _, KeepT.setCell b 0 w _⟩
 ·refine (zcQ b w h.cell0).mono ?_
  rintro e w' ⟨rfl, rfl⟩
  exact ⟨rfl, h, Below.refl b _, KeepT.refl b _⟩
theorem zbp (b : Nat) (bs : List Value) (c : Int) (w : World) (h : Lib.IsBuilder 57 5 b b bs w) (hlen : bs.length + 1 <= 140737488355328) :
  Calls Tryz.prog 123 #[.pointer (some ⟨b, 0, none⟩), .int .u8 c] w fun e w' => e = .returned .nilIface /\ Lib.IsBuilder 57 5 b b (bs ++ [.int .u8 c]) w' /\ Below b w w' /\ KeepT b w w' := by
 obtain ⟨i0, hi, hz0, hz1, hz2⟩ := info_parts Tryz.info5
 go_enter Tryz.func123, Tryz.ntmps123
 go_wp2_with fail
 refine (zbb b bs _ h).mono ?_
 rintro e w1 ⟨rfl, h1, hb1, hk1⟩
 have hlt := h1.lt
 obtain ⟨hB, v, hbk, hown, hne⟩ := h1
 have c0 : w1.cell? ⟨b, 0, none⟩ = some (.pointer (some ⟨b, 0, none⟩)) := by rw [Lib.cell_of_heap hbk]; rfl
 have c1 : w1.cell? ⟨b, 1, none⟩ = some v := by rw [Lib.cell_of_heap hbk]; rfl
 go_wp2_with (at_builtin; refine wpList_append_own _ rfl _ _ 55 rfl b 5 i0 (.int .u8 0) 1 1 Tryz.underlying55 hi hz0 hz1 hz2 rfl (by decide) _ _ _ rfl (hown.alloc _) ⟨w1.heap.size, 0, none⟩ 1 1 [.int .u8 c] rfl rfl (cell_one_new _ _ _) ?c2 ?c3 ?c4 ?c5 ?_)
 case c2 => intro u hu; simp at hu; subst hu; rfl
 case c3 => unfold maxLen; omega
 case c4 => omega
 case c5 => simp; omega
 intro v' w2 hown' hgrow _
 have hb2 : w2.heap[b]? = some (.cells #[.pointer (some ⟨b, 0, none⟩), v] 57 (0, 0)) := by
  rw [hgrow.block b (by simp; omega) (fun e => hne e.symm), Lib.alloc_old w1 _ b hlt]
  exact hbk
 have d0 : w2.cell? ⟨b, 0, none⟩ = some (.pointer (some ⟨b, 0, none⟩)) := by rw [Lib.cell_of_heap hb2]; rfl
 have d1 : w2.cell? ⟨b, 1, none⟩ = some v := by rw [Lib.cell_of_heap hb2]; rfl
 have f1 : w2.frozen? ⟨b, 1, none⟩ = false := Lib.frozen_of_heap hb2 1
 obtain ⟨g, cap, rfl⟩ := ownsRow_succ hown'
 go_wp2
 go_ret
 refine ⟨rfl, .inr ?_, ?_, ?_⟩
 ·exact Lib.BuilderAt.put (T := 57) (e := 5) hB hb2 (bs' := bs ++ [.int .u8 c]) (by simpa using hown') (by decide)
 ·exact ((hb1.alloc (by omega) _).grown hgrow (by simp; omega) (fun k hk => (hown.lt k hk).1)).setCell (p := ⟨b, 1, none⟩) hB _
 ·exact ((hk1.trans (KeepT.alloc b w1 _)).trans (KeepT.grown (hown.alloc _) hgrow)).trans (KeepT.setCell b 1 w2 _)
theorem zbT (b : Nat) (bs : List Value) (s : ByteArray) (w : World) (h : Lib.IsBuilder 57 5 b b bs w) (hlen : bs.length + s.size <= 140737488355328) :
  Calls Tryz.prog 48 #[.pointer (some ⟨b, 0, none⟩), .string s] w fun e w' => e = .returned (.tuple #[.int .i64 s.size, .nilIface]) /\ Lib.IsBuilder 57 5 b b (bs ++ Lib.strCells s) w' /\ Below b w w' /\ KeepT b w w' := by
 obtain ⟨i0, hi, hz0, hz1, hz2⟩ := info_parts Tryz.info5
 go_enter Tryz.func48, Tryz.ntmps48
 go_wp2_with fail
 refine (zbb b bs _ h).mono ?_
 rintro e w1 ⟨rfl, h1, hb1, hk1⟩
 have hlt := h1.lt
 obtain ⟨hB, v, hbk, hown, hne⟩ := h1
 have c0 : w1.cell? ⟨b, 0, none⟩ = some (.pointer (some ⟨b, 0, none⟩)) := by rw [Lib.cell_of_heap hbk]; rfl
 have c1 : w1.cell? ⟨b, 1, none⟩ = some v := by rw [Lib.cell_of_heap hbk]; rfl
 go_wp2_with (at_builtin; refine Lib.wpList_append_own_string _ rfl _ _ 55 9 rfl b 5 i0 Tryz.underlying55 Tryz.underlying9 hi hz0 hz1 hz2 _ _ _ rfl hown s rfl ?c3 ?c4 ?c5 ?_)
 case c3 => unfold maxLen; omega
 case c4 => omega
 case c5 => omega
 intro v' w2 hown' hgrow _
 have hb2 : w2.heap[b]? = some (.cells #[.pointer (some ⟨b, 0, none⟩), v] 57 (0, 0)) := by
  rw [hgrow.block b hlt (fun e => hne e.symm)]
  exact hbk
 have d0 : w2.cell? ⟨b, 0, none⟩ = some (.pointer (some ⟨b, 0, none⟩)) := by rw [Lib.cell_of_heap hb2]; rfl
 have d1 : w2.cell? ⟨b, 1, none⟩ = some v := by rw [Lib.cell_of_heap hb2]; rfl
 have f1 : w2.frozen? ⟨b, 1, none⟩ = false := Lib.frozen_of_heap hb2 1
 obtain ⟨ao, n', cap, rfl⟩ : ∃ ao n' cap, v' = .slice ao n' cap := by
  rcases hown'.2 with ⟨hv, _⟩ | ⟨g, cap, cur, hv, _⟩
  ·exact ⟨_, _, _, hv⟩
  ·exact ⟨_, _, _, hv⟩
 go_wp2
 go_ret2
 refine ⟨rfl, .inr ?_, ?_, ?_⟩
 ·exact Lib.BuilderAt.put (T := 57) (e := 5) hB hb2 (bs' := bs ++ Lib.strCells s) (by simpa [Lib.strCells_length] using hown') (by decide)
 ·exact (hb1.grown hgrow (by omega) (fun k hk => (hown.lt k hk).1)).setCell (p := ⟨b, 1, none⟩) hB _
 ·exact (hk1.trans (KeepT.grown hown hgrow)).trans (KeepT.setCell b 1 w2 _)
theorem zaX (w : World) (o : Obj) : Below w.heap.size w (w.alloc o) := (Below.refl _ _).alloc (Nat.le_refl _) _
theorem zhR (l : List Int) (hl : l.length <= 100) (w : World) : (w.alloc (.cells (l.map (Value.int .u8)).toArray 5)).ownsRow w.heap.size 5 1 (.slice (some ⟨w.heap.size, 0, none⟩) l.length l.length) l.length (l.map (Value.int .u8)) := by
 have h := World.ownsRow_lit (e := 5) (size := 1) (base := w.heap.size) w (l.map (Value.int .u8)).toArray l.length (Nat.le_refl _) (by unfold maxLen; omega) (by simp)
 simpa using h
theorem zl8 (c : Int) (w : World) : (convert 55 9 (.slice (some ⟨w.heap.size, 0, none⟩) 1 1)).run Tryz.prog (w.alloc (.cells #[.int .u8 c] 5)) = .ok (.string (zac [c])) (w.alloc (.cells #[.int .u8 c] 5)) :=
 zd1 (l := [c]) (zhR [c] (by simp) w)
theorem conv2 (c d : Int) (w : World) : (convert 55 9 (.slice (some ⟨w.heap.size, 0, none⟩) 2 2)).run Tryz.prog (w.alloc (.cells #[.int .u8 c, .int .u8 d] 5)) = .ok (.string (zac [c, d])) (w.alloc (.cells #[.int .u8 c, .int .u8 d] 5)) :=
 zd1 (l := [c, d]) (zhR [c, d] (by simp) w)
theorem conv4d (a b c d : Int) (w : World) : (convert 55 9 (.slice (some ⟨w.heap.size, 0, none⟩) 4 4)).run Tryz.prog (w.alloc (.cells #[.int .u8 a, .int .u8 b, .int .u8 c, .int .u8 d] 5)).drew = .ok (.string (zac [a, b, c, d])) (w.alloc (.cells #[.int .u8 a, .int .u8 b, .int .u8 c, .int .u8 d] 5)).drew :=
 zd1 (l := [a, b, c, d]) (w := (w.alloc (.cells #[.int .u8 a, .int .u8 b, .int .u8 c, .int .u8 d] 5)).drew) (base := w.heap.size) (zhR [a, b, c, d] (by simp) w)
theorem zon : ∀ m : Fin 16, ((digs[m.val]'m.isLt).toNat : Int) = zb4 (m.val : Int) := by decide +kernel
theorem zk4 (b : Nat) (hb : b < 256) (w : World) (h1 : ((b : Int) == 10) = false) (h2 : ((b : Int) == 13) = false) (h3 : ((b : Int) == 9) = false) (h4 : ((b : Int) == 39) = false) (h5 : ((b : Int) == 92) = false) (h6 : ¬ (32 <= (b : Int) /\ (b : Int) <= 126)) :
  Calls Tryz.prog 124 #[.int .u8 b] w fun e w' => e = .returned (.string (zac [92, 120, zb4 ((b : Int) / 16), zb4 ((b : Int) % 16)])) /\ Below w.heap.size w w' := by
 have t1 : IntKind.u8.wrap ((b : Int) / 16) = ((b / 16 : Nat) : Int) := by rw [IntKind.wrap_u8']; omega
 have t2 : IntKind.u8.wrap ((b : Int) % 16) = ((b % 16 : Nat) : Int) := by rw [IntKind.wrap_u8']; omega
 have t3 : (b : Int) / 16 = ((b / 16 : Nat) : Int) := by omega
 have t4 : (b : Int) % 16 = ((b % 16 : Nat) : Int) := by omega
 have k0 : (0 : Int) <= ((b / 16 : Nat) : Int) := by omega
 have k1 : ((b / 16 : Nat) : Int) < 16 := by omega
 have k2 : (0 : Int) <= ((b % 16 : Nat) : Int) := by omega
 have k3 : ((b % 16 : Nat) : Int) < 16 := by omega
 have q1 : b / 16 < 16 := by omega
 have q2 : b % 16 < 16 := by omega
 have hcv := conv4d 92 120 ((digs[b / 16]'q1).toNat : Int) ((digs[b % 16]'q2).toNat : Int) w
 have HR : Hid (zac [92, 120, zb4 ((b : Int) / 16), zb4 ((b : Int) % 16)] = zac [92, 120, ((digs[b / 16]'q1).toNat : Int), ((digs[b % 16]'q2).toNat : Int)]) := (by
  show _ = _
  rw [t3, t4, <- zon ⟨b / 16, q1⟩, <- zon ⟨b % 16, q2⟩])
 rw [HR.out]
 clear HR
 have hg : ¬ 32 <= (b : Int) ∨ (32 <= (b : Int) /\ ¬ (b : Int) <= 126) := by omega
 clear h6
 generalize b / 16 = m at *
 generalize b % 16 = n at *
 rcases hg with hg | ⟨hg, hg2⟩
 all_goals
  go_enter Tryz.func124, Tryz.ntmps124
  go_wp2_with fail
  go_region
  all_goals
   go_wp2
   go_ret
   exact ⟨rfl, (zaX _ _).drew⟩
theorem zk5 (b : Nat) (hb : b < 256) (w : World) :
  Calls Tryz.prog 124 #[.int .u8 b] w fun e w' => e = .returned (.string (zac (shB b))) /\ Below w.heap.size w w' := by
 unfold shB
 by_cases h1 : (b : Int) = 10
 ·rw [if_pos h1]
  have e1 : ((b : Int) == 10) = true := beq_iff_eq.2 h1
  clear h1
  go_enter Tryz.func124, Tryz.ntmps124
  go_wp2
  go_ret
  exact ⟨rfl, Below.refl _ _⟩
 rw [if_neg h1]
 have e1 : ((b : Int) == 10) = false := bF h1
 by_cases h2 : (b : Int) = 13
 ·rw [if_pos h2]
  have e2 : ((b : Int) == 13) = true := beq_iff_eq.2 h2
  clear h1 h2
  go_enter Tryz.func124, Tryz.ntmps124
  go_wp2
  go_ret
  exact ⟨rfl, Below.refl _ _⟩
 rw [if_neg h2]
 have e2 : ((b : Int) == 13) = false := bF h2
 by_cases h3 : (b : Int) = 9
 ·rw [if_pos h3]
  have e3 : ((b : Int) == 9) = true := beq_iff_eq.2 h3
  clear h1 h2 h3
  go_enter Tryz.func124, Tryz.ntmps124
  go_wp2
  go_ret
  exact ⟨rfl, Below.refl _ _⟩
 rw [if_neg h3]
 have e3 : ((b : Int) == 9) = false := bF h3
 by_cases h4 : (b : Int) = 39 ∨ (b : Int) = 92
 ·rw [if_pos h4]
  have hg : ((b : Int) == 39) = true ∨ (((b : Int) == 39) = false /\ ((b : Int) == 92) = true) := by
   rcases h4 with h | h
   ·exact .inl (beq_iff_eq.2 h)
   ·exact .inr ⟨bF (by omega), beq_iff_eq.2 h⟩
  have hcv := conv2 92 (b : Int) w
  clear h1 h2 h3 h4
  rcases hg with e4 | ⟨e4, e5⟩
  all_goals
   go_enter Tryz.func124, Tryz.ntmps124
   go_wp2
   go_ret
   exact ⟨rfl, zaX _ _⟩
 rw [if_neg h4]
 have e4 : ((b : Int) == 39) = false := bF (by omega)
 have e5 : ((b : Int) == 92) = false := bF (by omega)
 by_cases h5 : 32 <= (b : Int) /\ (b : Int) <= 126
 ·rw [if_pos h5]
  obtain ⟨h6, h7⟩ := h5
  have hcv := zl8 (b : Int) w
  clear h1 h2 h3 h4
  go_enter Tryz.func124, Tryz.ntmps124
  go_wp2
  go_ret
  exact ⟨rfl, zaX _ _⟩
 rw [if_neg h5]
 exact zk4 b hb w e1 e2 e3 e4 e5 h5
theorem zdr {w w' : World} {b : Nat} {bs : List Value} (h : Lib.IsBuilder 57 5 b b bs w) (hb : Below w.heap.size w w') : Lib.IsBuilder 57 5 b b bs w' := by
 have key : ∀ p, Lib.BuilderAt 57 5 b b p bs w -> Lib.BuilderAt 57 5 b b p bs w' := fun p hp => by
  have hlt := hp.lt
  obtain ⟨hB, v, hbk, hown, hne⟩ := hp
  exact ⟨hB, v, (hb.block b hlt).trans hbk, za2 hown hb, hne⟩
 exact h.imp (key _) (key _)
theorem ziA {s : ByteArray} (h : 65536 < s.size ∨ 65536 < (qT s).length) : quV s = .tuple #[.string ⟨#[]⟩, .int .i64 2] := by unfold quV; rw [if_pos h]
theorem zf3 {s : ByteArray} (h : ¬ (65536 < s.size ∨ 65536 < (qT s).length)) : quV s = .tuple #[.string (zac (qT s)), .int .i64 0] := by unfold quV; rw [if_neg h]
theorem zgU (s : ByteArray) (w : World) :
  Calls Tryz.prog 100 #[.string s] w fun e w' => e = .returned (quV s) /\ Below w.heap.size w w' := by
 by_cases h : 65536 < s.size
 ·have HE := hO (ziA (.inl h))
  have h1 : (65536 : Int) < (s.size : Int) := by omega
  go_enter Tryz.func100, Tryz.ntmps100
  go_wp2
  go_ret2
  exact ⟨by rw [HE.out]; rfl, Below.refl _ _⟩
 ·have h1 : ¬ (65536 : Int) < (s.size : Int) := by omega
  have t1 : decide ((65536 : Int) < (s.size : Int)) = false := decide_eq_false (by omega)
  have HK := hO (Lib.fresh_isBuilder 57 5 w)
  have HB := hO (zaX w (.cells #[.pointer none, .slice none 0 0] 57))
  go_enter Tryz.func100, Tryz.ntmps100
  go_wp2_with fail
  refine (zbp w.heap.size [] 39 _ HK.out (by simp)).mono ?_
  rintro e w1 ⟨rfl, hk1, hb1, _⟩
  have HK1 : Hid (Lib.IsBuilder 57 5 w.heap.size w.heap.size ((qTo s 0).map (Value.int .u8)) w1) := hk1
  have HB1 := hO (HB.out.trans (hb1.mono (Nat.le_refl _)))
  clear hk1 hb1 HK HB
  go_wp2_with fail
  go_loopw [5] (fun t wr => ∃ k : Nat, k <= s.size /\ t = .int .i64 k /\ Hid (Lib.IsBuilder 57 5 w.heap.size w.heap.size ((qTo s k).map (Value.int .u8)) wr /\ Below w.heap.size w wr)) (fun t _ => s.size - (intOf t).toNat)
  case atStart => exact ⟨0, by omega, rfl, HK1.out, HB1.out⟩
  case round =>
   obtain ⟨k, hk, rfl, HI⟩ := hrel
   clear HK1 HB1
   have hql := zhA s k
   by_cases hlt : k < s.size
   ·have HS := hO (zmx s k hlt)
    have hbb : s[k].toNat < 256 := s[k].toNat_lt
    have HW : Hid (∀ w, Calls Tryz.prog 124 #[.int .u8 (s[k].toNat : Int)] w fun e w' => e = .returned (.string (zac (shB (s[k].toNat : Int)))) /\ Below w.heap.size w w') := fun w => zk5 _ hbb w
    have HT : Hid ((zac (shB (s[k].toNat : Int))).size <= 4) := (by show _ <= 4; rw [zam]; exact (zhy _).2)
    have HC : Hid (Lib.strCells (zac (shB (s[k].toNat : Int))) = (shB (s[k].toNat : Int)).map (Value.int .u8)) := zfQ (zkv (by omega) (by omega))
    go_wp2_with fail
    refine (HW.out _).mono ?_
    rintro e w2 ⟨rfl, hb2⟩
    have HJ := hO ((⟨zdr HI.out.1 hb2, HI.out.2.trans (hb2.mono HI.out.2.size)⟩ : _ /\ _))
    clear hb2 HI HW
    go_wp2_with fail
    refine (zbT w.heap.size _ _ _ HJ.out.1 (by have h := HT.out; rw [List.length_map]; omega)).mono ?_
    rintro e w3 ⟨rfl, hk3, hb3, _⟩
    have HI3 := (show Hid (Lib.IsBuilder 57 5 w.heap.size w.heap.size ((qTo s (k + 1)).map (Value.int .u8)) w3 /\ Below w.heap.size w w3) from (by
     refine ⟨?_, HJ.out.2.trans (hb3.mono (Nat.le_refl _))⟩
     rw [HS.out, List.map_append, <- HC.out]
     exact hk3))
    clear hk3 hb3 HJ
    go_wp2
    go_roundw
    case rel => exact ⟨k + 1, by omega, by go_num, HI3⟩
    case measure => simp [intOf]; omega
   ·have HA := hO (zhz s k (by omega))
    go_wp2_with fail
    refine (zbp w.heap.size _ 39 _ HI.out.1 (by rw [List.length_map]; omega)).mono ?_
    rintro e w3 ⟨rfl, hk3, hb3, _⟩
    have HI3 := (show Hid (Lib.IsBuilder 57 5 w.heap.size w.heap.size ((qT s).map (Value.int .u8)) w3 /\ Below w.heap.size w w3) from (by
     refine ⟨?_, HI.out.2.trans (hb3.mono (Nat.le_refl _))⟩
     rw [<- HA.out, List.map_append]
     exact hk3))
    clear hk3 hb3 HI HA
    go_wp2_with fail
    refine (Tryz.Builder_Len w.heap.size w.heap.size _ _ HI3.out.1).mono ?_
    rintro e w4 ⟨rfl, rfl⟩
    rw [List.length_map]
    by_cases hq : 65536 < (qT s).length
    ·have HE := hO (ziA (.inr hq))
     have hqI : (65536 : Int) < ((qT s).length : Int) := by omega
     go_wp2
     go_ret2
     exact ⟨by rw [HE.out]; rfl, HI3.out.2⟩
    ·have HE := hO (zf3 (s := s) (by omega))
     have hqI : ¬ (65536 : Int) < ((qT s).length : Int) := by omega
     have HX := (show Hid (Lib.IsBuilder 57 5 w.heap.size w.heap.size (Lib.byteCells ((qT s).map fun n => UInt8.ofNat n.toNat)) w4) from (by
      show Lib.IsBuilder _ _ _ _ _ _
      rw [zij (zpL s)]
      exact HI3.out.1))
     clear hq
     generalize (qT s).length = L at *
     go_wp2_with fail
     refine (Tryz.Builder_String_any w.heap.size w.heap.size _ _ HX.out HI3.out.2.size).mono ?_
     rintro e w5 ⟨rfl, hb5⟩
     go_wp2
     go_ret2
     exact ⟨by rw [HE.out, zch]; rfl, HI3.out.2.trans hb5⟩
end Go.Proofs.YtnpifgcgjgddoaaGreatDoor.Q
namespace Go.Proofs.YtnpifgcgjgddoaaGreatDoor
open Go.RowKit
def mkS (a b c d : Int) : BitVec 256 := BitVec.ofNat 256 (a.toNat + 2 ^ 64 * (b.toNat + 2 ^ 64 * (c.toNat + 2 ^ 64 * d.toNat)))
theorem zoo (a b c d : Int) (ha : 0 <= a /\ a < 18446744073709551616) (hb : 0 <= b /\ b < 18446744073709551616) (hc : 0 <= c /\ c < 18446744073709551616) (hd : 0 <= d /\ d < 18446744073709551616) :
  wd (mkS a b c d) 0 = a /\ wd (mkS a b c d) 1 = b /\ wd (mkS a b c d) 2 = c /\ wd (mkS a b c d) 3 = d := by
 unfold mkS
 simp only [wd, BitVec.extractLsb'_toNat, BitVec.toNat_ofNat, Nat.shiftRight_eq_div_pow]
 refine ⟨?_, ?_, ?_, ?_⟩ <;> omega
def txO (l : List UInt8) : ByteArray := ⟨l.toArray⟩
def rnT (a b : Nat) : ByteArray := ⟨#[37, 117, 123]⟩ ++ txO (dgT 16 a) ++ ⟨#[45]⟩ ++ txO (dgT 16 b) ++ ⟨#[125]⟩
def tkX (t : Tk) : ByteArray :=
 if t.kd = 1 then t.tx else if t.kd = 21 then ⟨#[123, 58]⟩ ++ gnm t.tx else if t.kd = 2 then Q.zac (Q.qT t.tx) else
 if t.kd = 3 then txO (shT (mkS t.s0 t.s1 t.s2 t.s3)) else if t.kd = 28 then ⟨#[37]⟩ ++ t.tx else if t.kd = 5 then rnT t.nn.toNat t.s0.toNat else
 if t.kd = 4 then txO (dgT 10 t.nn.toNat) else if t.kd = 13 then ⟨#[94]⟩ ++ txO (dgT 10 t.nn.toNat) else if t.kd = 14 then ⟨#[94, 43]⟩ ++ txO (dgT 10 t.nn.toNat) else
 if t.kd = 15 then ⟨#[94, 45]⟩ ++ txO (dgT 10 t.nn.toNat) else if t.kd = 29 then ⟨#[37, 101]⟩ else if t.kd = 30 then ⟨#[37, 102]⟩ else txO (sgn t.kd.toNat)
theorem zop {t : Tk} (h : riF t = true) : 1 <= t.kd /\ t.kd <= 30 /\ txF t.kd t.tx = true /\ 0 <= t.nn /\ t.nn <= (if t.kd = 5 then t.s0 else gtK t.kd) /\ seF t.kd t.tx t.s0 t.s1 t.s2 t.s3 = true := by
 unfold riF nbF at h
 simp only [Bool.and_eq_true, decide_eq_true_eq] at h
 obtain ⟨⟨⟨⟨h1, h2⟩, h3⟩, h4, h5⟩, h6⟩ := h
 exact ⟨h1, h2, h3, h4, h5, h6⟩
theorem zbE {s : ByteArray} (h : zfo s = true) : 0 < s.size /\ s.size <= 32 := by
 unfold zfo at h
 simp only [Bool.and_eq_true, decide_eq_true_eq] at h
 exact ⟨h.1.1.1, h.1.1.2⟩
theorem zd4 {s : ByteArray} (h : (s.toList == []) = true) : s.size = 0 := by
 have h := beq_iff_eq.1 h
 rw [ByteArray.toList_eq] at h
 have : s.data.toList.length = 0 := by rw [h]; rfl
 exact this
theorem zqp {k : Int} {s : ByteArray} (h : txF k s = true) : s.size <= 255 := by
 unfold txF at h
 split at h
 ·have := zbE h; omega
 split at h
 ·rcases Bool.or_eq_true_iff.1 h with h | h
  ·have := zd4 h; omega
  ·have := zbE h; omega
 split at h
 ·have := of_decide_eq_true h; omega
 split at h
 ·have := beq_iff_eq.1 h; omega
 ·have := zd4 h; omega
theorem zqq {k s0 s1 s2 s3 : Int} {s : ByteArray} (hk : k = 5) (h : seF k s s0 s1 s2 s3 = true) : s0 <= 1114111 := by
 subst hk
 unfold seF at h
 rw [if_neg (by omega), if_neg (by omega), if_pos rfl] at h
 simp only [Bool.and_eq_true, decide_eq_true_eq] at h
 exact h.1
theorem zcu (l : List UInt8) : (txO l).size = l.length := by show l.toArray.size = _; simp
theorem zqr (x : BitVec 256) : (shT x).length <= 2306 := by
 unfold shT
 split
 ·simp
 ·have h1 := zd3 (spL (bys x))
  have h2 := zdD x
  simp only [List.length_append, List.length_cons, List.length_nil]
  omega
theorem zcv : ∀ d : Fin 16, zbj ((zb4 d.val).toNat : Int) = (d.val : Int) /\ hxB ((zb4 d.val).toNat : Int) = true /\ (d.val < 10 -> dgB ((zb4 d.val).toNat : Int) = true) /\ (((zb4 d.val).toNat : Int) = 48 -> d.val = 0) := by decide
theorem zk6 (b : Nat) (hb : 2 <= b) (hb2 : b <= 16) (n : Nat) : ∀ x ∈ dgT b n, ∃ d, d < b /\ x = zb4 d := by
 induction n using Nat.strongRecOn with
 | _ n ih =>
  intro x hx
  by_cases h : n < b
  ·rw [zew h] at hx
   exact ⟨n, h, by simpa using hx⟩
  ·rw [zgT hb h] at hx
   rcases List.mem_append.1 hx with h1 | h1
   ·exact ih (n / b) (zdt hb h) x h1
   ·exact ⟨n % b, Nat.mod_lt _ (by omega), by simpa using h1⟩
theorem zk7 (b : Nat) (hb : 2 <= b) (n : Nat) (hn : 0 < n) : ∃ d r, 0 < d /\ d < b /\ dgT b n = zb4 d :: r := by
 induction n using Nat.strongRecOn with
 | _ n ih =>
  by_cases h : n < b
  ·exact ⟨n, [], hn, h, zew h⟩
  ·have h1 : 0 < n / b := Nat.div_pos (by omega) (by omega)
   obtain ⟨d, r, h2, h3, h4⟩ := ih (n / b) (zdt hb h) h1
   exact ⟨d, r ++ [zb4 (n % b)], h2, h3, by rw [zgT hb h, h4]; rfl⟩
theorem zk8 {l : List UInt8} {i : Nat} {x : UInt8} (h : l[i]? = some x) : chL l i = (x.toNat : Int) := by unfold chL; rw [h]
theorem zk9 {l : List UInt8} {i : Nat} (h : l.length <= i) : chL l i = -1 := by unfold chL; rw [List.getElem?_eq_none h]
theorem zf4 (p q : List UInt8) (i : Nat) (h : i < p.length) : chL (p ++ q) i = chL p i := by unfold chL; rw [List.getElem?_append_left h]
theorem ziB (b : Nat) (hb : 2 <= b) (hb2 : b <= 16) (n i : Nat) (h : i < (dgT b n).length) : ∃ d, d < b /\ chL (dgT b n) i = ((zb4 d).toNat : Int) := by
 obtain ⟨d, h1, h2⟩ := zk6 b hb hb2 n (dgT b n)[i] (List.getElem_mem h)
 exact ⟨d, h1, by rw [zk8 (List.getElem?_eq_getElem h), h2]⟩
theorem zgV (b : Nat) (hb : 2 <= b) (hb2 : b <= 16) (n : Nat) : ∀ q : List UInt8, zbn (tx8 (dgT b n ++ q)) 0 (b : Int) (dgT b n).length = (n : Int) := by
 induction n using Nat.strongRecOn with
 | _ n ih =>
  intro q
  by_cases h : n < b
  ·rw [zew h]
   have e : chr (tx8 ([zb4 n] ++ q)) 0 = ((zb4 n).toNat : Int) := by rw [zay]; rfl
   show (0 : Int) * b + zbj (chr (tx8 ([zb4 n] ++ q)) 0) = n
   rw [e, (zcv ⟨n, by omega⟩).1]
   show (0 : Int) * b + (n : Int) = n
   rw [Int.zero_mul, Int.zero_add]
  ·have hd := zgT hb h
   have h2 := ih (n / b) (zdt hb h) ([zb4 (n % b)] ++ q)
   have hm : n % b < b := Nat.mod_lt _ (by omega)
   rw [hd, List.append_assoc, List.length_append, List.length_singleton]
   show zbn _ 0 (b : Int) (dgT b (n / b)).length * b + zbj (chr _ (0 + (dgT b (n / b)).length)) = n
   rw [h2, Nat.zero_add, at0]
   have e : chL ([zb4 (n % b)] ++ q) 0 = ((zb4 (n % b)).toNat : Int) := rfl
   rw [e, (zcv ⟨n % b, by omega⟩).1]
   show ((n / b : Nat) : Int) * (b : Int) + ((n % b : Nat) : Int) = n
   have h3 := Nat.div_add_mod n b
   have h4 : ((b * (n / b) + n % b : Nat) : Int) = (n : Int) := by rw [h3]
   rw [Int.natCast_add, Int.natCast_mul, Int.mul_comm] at h4
   exact h4
theorem zla (p l q : List UInt8) : Ag (tx8 l) 0 (tx8 (p ++ l ++ q)) p.length l.length := fun k hk => by
 rw [Nat.zero_add, zay, zay, List.append_assoc, zhJ, zf4 _ _ _ hk]
theorem znb (n : Nat) : spN dgB (tx8 (dgT 10 n)) 0 = 0 + (dgT 10 n).length := by
 refine zgS (by decide) (by omega) (fun k _ hk => ?_) ?_
 ·obtain ⟨d, h1, h2⟩ := ziB 10 (by omega) (by omega) n k (by omega)
  rw [zay, h2]
  exact (zcv ⟨d, by omega⟩).2.2.1 h1
 ·rw [zay, zk9 (by omega)]; decide
theorem run16 (n : Nat) : spN hxB (tx8 (dgT 16 n)) 0 = 0 + (dgT 16 n).length := by
 refine zgS (by decide) (by omega) (fun k _ hk => ?_) ?_
 ·obtain ⟨d, h1, h2⟩ := ziB 16 (by omega) (by omega) n k (by omega)
  rw [zay, h2]
  exact (zcv ⟨d, by omega⟩).2.1
 ·rw [zay, zk9 (by omega)]; decide
theorem num10 (n : Nat) (most : Int) (h1 : n <= 999999) (h2 : (n : Int) <= most) : zdd (tx8 (dgT 10 n)) 0 most = .inl (n : Int) := by
 have hr := znb n
 have hl := zdG 10 (by omega) 5 n (by omega)
 have hne := ziz 10 n (by omega)
 have hw : zbn (tx8 (dgT 10 n)) 0 10 (dgT 10 n).length = (n : Int) := by
  have h := zgV 10 (by omega) (by omega) n []
  rw [List.append_nil] at h
  exact h
 have hpos : 0 < (dgT 10 n).length := by
  cases hd : dgT 10 n with
  | nil => exact absurd hd hne
  | cons a b => simp
 unfold zdd
 rw [hr, Nat.zero_add, Nat.sub_zero, if_neg, if_neg, hw]
 ·rw [hw]; omega
 ·rintro (q | ⟨q1, q2⟩)
  ·omega
  ·by_cases h0 : 0 < n
   ·obtain ⟨d, r, d1, d2, d3⟩ := zk7 10 (by omega) n h0
    rw [zay, d3] at q2
    have := (zcv ⟨d, by omega⟩).2.2.2 q2
    simp only at this
    omega
   ·obtain rfl : n = 0 := by omega
    rw [zew (by omega)] at q1
    simp at q1
structure Beg (s : ByteArray) : Prop where
 b : ¬ (chr s 0 = 9 ∨ chr s 0 = 10 ∨ chr s 0 = 13 ∨ chr s 0 = 32)
 c : ¬ (chr s 0 = 45 /\ chr s 1 = 45)
theorem Beg.of {s : ByteArray} {c : Int} (h : chr s 0 = c) (h1 : ¬ (c = 9 ∨ c = 10 ∨ c = 13 ∨ c = 32 ∨ c = 45)) : Beg s := ⟨by rw [h]; omega, by rw [h]; omega⟩
structure Aln (s : ByteArray) (kd nn : Int) (tx : ByteArray) (s0 s1 s2 s3 : Int) : Prop where
 p : 0 < s.size
 o : zaA s 0 = .inl ⟨kd, nn, 0, (s.size : Nat), tx, s0, s1, s2, s3⟩
 b : Beg s
theorem zqs {s : ByteArray} (h : zfo s = true) : Aln s 1 0 s 0 0 0 0 := by
 unfold zfo at h
 simp only [Bool.and_eq_true, decide_eq_true_eq, beq_iff_eq] at h
 obtain ⟨⟨⟨h1, h2⟩, h3⟩, h4⟩ := h
 refine ⟨h1, ?_, ?_⟩
 ·unfold zaA
  rw [if_pos h3]
  unfold zb0
  rw [h4, Nat.sub_zero, if_neg (by omega)]
  congr 2
  apply ByteArray.ext
  simp []
 ·refine Beg.of rfl ?_
  unfold hdB at h3
  simp only [Bool.or_eq_true, Bool.and_eq_true, decide_eq_true_eq, beq_iff_eq] at h3
  omega
theorem al_num (n : Nat) (h : n <= 999999) : Aln (tx8 (dgT 10 n)) 4 n ⟨#[]⟩ 0 0 0 0 := by
 have hne := ziz 10 n (by omega)
 have hpos : 0 < (dgT 10 n).length := by
  cases hd : dgT 10 n with
  | nil => exact absurd hd hne
  | cons a b => simp
 obtain ⟨d, h1, h2⟩ := ziB 10 (by omega) (by omega) n 0 hpos
 have h3 := (zcv ⟨d, by omega⟩).2.2.1 h1
 dsimp only at h3
 rw [<- h2, <- zay] at h3
 have hc : 48 <= chr (tx8 (dgT 10 n)) 0 /\ chr (tx8 (dgT 10 n)) 0 <= 57 := by
  unfold dgB at h3
  simpa using h3
 refine ⟨hpos, ?_, Beg.of rfl (by omega)⟩
 have hh : hdB (chr (tx8 (dgT 10 n)) 0) = false := by
  unfold hdB
  simp only [Bool.or_eq_false_iff, Bool.and_eq_false_iff, decide_eq_false_iff_not, beq_eq_false_iff_ne]
  omega
 unfold zaA
 rw [if_neg (by rw [hh]; decide), if_pos h3]
 unfold nmR
 rw [show gtK 4 = 999999 from rfl, num10 n 999999 h (by omega), znb n, Nat.zero_add]
 rfl
end Go.Proofs.YtnpifgcgjgddoaaGreatDoor
namespace Go.Proofs.YtnpifgcgjgddoaaGreatDoor.Q
open Go.RowKit
def lch (l : List Int) (i : Nat) : Int := (l[i]?).getD (-1)
theorem zdu {l : List Int} (h : By l) (i : Nat) : chr (zac l) i = lch l i := by
 by_cases hi : i < (zac l).size
 ·rw [zai hi]
  have hl : i < l.length := by rwa [zam] at hi
  unfold lch
  rw [List.getElem?_eq_getElem hl]
  have hb := h l[i] (List.getElem_mem hl)
  have he : (zac l)[i] = UInt8.ofNat l[i].toNat := by
   have h2 := za0 l
   have : (zac l).data.toList[i]'(by simpa using hi) = (zac l)[i] := rfl
   rw [<- this]
   simp [h2]
  rw [he]
  show ((UInt8.ofNat l[i].toNat).toNat : Int) = l[i]
  rw [UInt8.toNat_ofNat', Nat.mod_eq_of_lt (by omega)]
  omega
 ·rw [zas hi]
  unfold lch
  rw [List.getElem?_eq_none (by rw [zam] at hi; omega)]
  rfl
theorem zhS : ∀ b : Fin 256, zaN (zac (shB (b.val : Int))) 0 = .inl ((b.val : Int), (shB (b.val : Int)).length) /\ chr (zac (shB (b.val : Int))) 0 ≠ 39 := by
 have key : ∀ b : Fin 256, (match zaN (zac (shB (b.val : Int))) 0 with | .inl (x, n) => decide (x = (b.val : Int)) && decide (n = (shB (b.val : Int)).length) | .inr (_, _) => false) = true /\ decide (chr (zac (shB (b.val : Int))) 0 ≠ 39) = true := by decide +kernel
 intro b
 obtain ⟨h1, h2⟩ := key b
 refine ⟨?_, of_decide_eq_true h2⟩
 split at h1
 ·next x n hx =>
  rw [hx]
  simp only [Bool.and_eq_true, decide_eq_true_eq] at h1
  rw [h1.1, h1.2]
 ·cases h1
theorem zqt (a p c : List Int) (i : Nat) (h : i < p.length) : lch (a ++ p ++ c) (a.length + i) = lch p i := by
 unfold lch
 rw [List.append_assoc, List.getElem?_append_right (by omega), show a.length + i - a.length = i from by omega, List.getElem?_append_left h]
theorem zqu (a : List Int) (x : Int) : lch (a ++ [x]) a.length = x := by
 unfold lch
 rw [List.getElem?_append_right (Nat.le_refl _), Nat.sub_self]
 rfl
theorem zjs {s s' : ByteArray} {d n : Nat} {b : Int} (h : za3 s 0 = some (b, n)) (hc : ∀ k, k < n -> chr s' (d + k) = chr s k) : za3 s' d = some (b, d + n) := by
 unfold za3 at h ⊢
 split at h
 ·next q =>
  cases h
  rw [Nat.zero_add] at hc
  rw [Nat.zero_add, Nat.zero_add] at *
  rw [hc 2 (by omega), hc 3 (by omega), if_pos q]
 ·cases h
theorem zjt {s s' : ByteArray} {d n : Nat} {b : Int} (h : zan s 0 = some (b, n)) (hc : ∀ k, k < n -> chr s' (d + k) = chr s k) : zan s' d = some (b, d + n) := by
 have hn : 1 < n := by
  unfold zan za3 at h
  repeat' split at h
  all_goals first | (cases h; omega) | cases h
 have h1 := hc 1 (by omega)
 unfold zan at h ⊢
 rw [Nat.zero_add] at h
 rw [h1]
 split at h
 ·next q => cases h; rw [if_pos q]
 ·next q1 =>
  rw [if_neg q1]
  split at h
  ·next q => cases h; rw [if_pos q]
  ·next q2 =>
   rw [if_neg q2]
   split at h
   ·next q => cases h; rw [if_pos q]
   ·next q3 =>
    rw [if_neg q3]
    split at h
    ·next q => cases h; rw [if_pos q]
    ·next q4 =>
     rw [if_neg q4]
     split at h
     ·next q => rw [if_pos q]; exact zjs h hc
     ·cases h
theorem ze7 {s s' : ByteArray} {d n : Nat} {b : Int} (h : zaN s 0 = .inl (b, n)) (hc : ∀ k, k < n -> chr s' (d + k) = chr s k) : zaN s' d = .inl (b, d + n) := by
 have hn := zgF h
 have h1 := hc 0 (by omega)
 rw [Nat.add_zero] at h1
 unfold zaN at h ⊢
 rw [h1]
 split at h
 ·next q =>
  rw [if_pos q]
  split at h
  ·cases h
  ·next p hp => cases h; rw [zjt hp hc]
 ·next q =>
  rw [if_neg q]
  split at h
  ·cases h
  ·next q2 => cases h; rw [if_neg q2]
theorem zju (L : List Int) (hL : By L) (rest : List Int) (hr : By rest) (a : List Int) (l : List Int) (hE : L = a ++ rest.flatMap shB ++ [39]) (f : Nat) (hf : L.length + 1 <= f + a.length) :
  za4 (zac L) 39 f a.length l = .inl (l ++ rest, L.length) := by
 induction rest generalizing a l f with
 | nil =>
  obtain ⟨g, rfl⟩ : ∃ g, f = g + 1 := ⟨f - 1, by rw [hE] at hf; simp at hf; omega⟩
  have h39 : chr (zac L) a.length = 39 := by
   rw [zdu hL, hE]; simp only [List.flatMap_nil, List.append_nil]; exact zqu a 39
  rw [zfl h39, List.append_nil]
  have : L.length = a.length + 1 := by rw [hE]; simp
  rw [this]
 | cons b rest ih =>
  obtain ⟨g, rfl⟩ : ∃ g, f = g + 1 := ⟨f - 1, by rw [hE] at hf; simp at hf; omega⟩
  have hb := hr b (List.mem_cons_self ..)
  have hlen := zhy b
  have hE2 : L = a ++ shB b ++ (rest.flatMap shB ++ [39]) := by rw [hE, List.flatMap_cons]; simp
  obtain ⟨p1, p2⟩ := zhS ⟨b.toNat, by omega⟩
  rw [show (((⟨b.toNat, by omega⟩ : Fin 256).val : Nat) : Int) = b from by show ((b.toNat : Nat) : Int) = b; omega] at p1 p2
  have hcp : ∀ i, i < (shB b).length -> chr (zac L) (a.length + i) = chr (zac (shB b)) i := fun i hi => by
   rw [zdu hL, zdu (zkv hb.1 hb.2), hE2]; exact zqt a (shB b) _ i hi
  have hsz : (zac L).size = L.length := zam L
  have hL2 : L.length = a.length + (shB b).length + (rest.flatMap shB ++ [39]).length := by rw [hE2]; simp; omega
  have hlt : a.length < (zac L).size := by omega
  have hne : chr (zac L) a.length ≠ 39 := by have := hcp 0 (by omega); rw [Nat.add_zero] at this; rw [this]; exact p2
  have hby : zaN (zac L) a.length = .inl (b, a.length + (shB b).length) := by
   have hs := ze7 p1 hcp
   exact hs
  rw [zep hne hlt hby]
  have h3 := ih (fun n hn => hr n (List.mem_cons_of_mem _ hn)) (a ++ shB b) (l ++ [b]) (by rw [hE2]; simp) g (by rw [List.length_append]; omega)
  rw [List.length_append] at h3
  rw [h3]
  simp
theorem zlb (s : ByteArray) (h : (qT s).length <= 65536) : zbZ (zac (qT s)) 0 = .inl (byl s, (qT s).length) := by
 have hsz := zam (qT s)
 have hb := zpL s
 have hE : qT s = [39] ++ (byl s).flatMap shB ++ [39] := rfl
 have h0 : chr (zac (qT s)) 0 = 39 := by rw [zdu hb]; rfl
 unfold zbZ
 rw [if_neg (by omega), if_neg (by omega), show (0 : Int).toNat = 0 from rfl, h0, if_pos (.inl rfl)]
 have h2 := zju (qT s) hb (byl s) (zoh s) [39] [] hE ((zac (qT s)).size + 1) (by rw [hsz]; simp)
 exact h2
end Go.Proofs.YtnpifgcgjgddoaaGreatDoor.Q
namespace Go.Proofs.YtnpifgcgjgddoaaGreatDoor
open Go.RowKit
theorem zfp {s : ByteArray} {c : Int} (h0 : chr s 0 = c) (h1 : hdB c = false) (h2 : dgB c = false) (h3 : ¬ (c = 39 ∨ c = 34)) (h4 : ¬ c = 91) (h5 : ¬ c = 37) : zaA s 0 = zbm s 0 := by
 unfold zaA
 rw [h0, if_neg (by rw [h1]; decide), if_neg (by rw [h2]; decide), if_neg h3, if_neg h4, if_neg h5]
theorem zlc (p : List UInt8) (k : Int) (n : Nat) (h : n <= 50) (hp : p = [94] /\ k = 13 ∨ p = [94, 43] /\ k = 14 ∨ p = [94, 45] /\ k = 15) : Aln (tx8 (p ++ dgT 10 n)) k n ⟨#[]⟩ 0 0 0 0 := by
 have hne := ziz 10 n (by omega)
 have hpos : 0 < (dgT 10 n).length := by
  cases hd : dgT 10 n with
  | nil => exact absurd hd hne
  | cons a b => simp
 obtain ⟨d, d1, d2⟩ := ziB 10 (by omega) (by omega) n 0 hpos
 have d3 := (zcv ⟨d, by omega⟩).2.2.1 d1
 dsimp only at d3
 rw [<- d2] at d3
 have hc : 48 <= chL (dgT 10 n) 0 /\ chL (dgT 10 n) 0 <= 57 := by
  unfold dgB at d3
  simpa using d3
 have hsz : (tx8 (p ++ dgT 10 n)).size = p.length + (dgT 10 n).length := by rw [zb2, List.length_append]
 have hag : Ag (tx8 (dgT 10 n)) 0 (tx8 (p ++ dgT 10 n)) p.length (dgT 10 n).length := by
  have := zla p (dgT 10 n) []
  rwa [List.append_nil] at this
 have hend : dgB (chr (tx8 (p ++ dgT 10 n)) (p.length + (dgT 10 n).length)) = false := by
  rw [zas (by rw [hsz]; omega)]; decide
 have hnum := zhO (b' := 0) (by
  show nmR (tx8 (dgT 10 n)) 0 0 k = .inl ⟨k, n, (0 : Nat), ((dgT 10 n).length : Nat), ⟨#[]⟩, 0, 0, 0, 0⟩
  have hg : gtK k = 50 := by rcases hp with h | h | h <;> (rw [h.2]; rfl)
  unfold nmR
  rw [hg, num10 n 50 (by omega) (by omega), znb n, Nat.zero_add]) (by have := znb n; omega) hag hend
 have hfirst := atj p (dgT 10 n) 0
 rcases hp with ⟨rfl, rfl⟩ | ⟨rfl, rfl⟩ | ⟨rfl, rfl⟩
 ·have c0 : chr (tx8 ([94] ++ dgT 10 n)) 0 = 94 := by rw [zay]; rfl
  refine ⟨by rw [hsz]; omega, ?_, Beg.of c0 (by omega)⟩
  rw [zfp c0 (by decide) (by decide) (by decide) (by decide) (by decide)]
  have e : zak (tx8 ([94] ++ dgT 10 n)) 0 = (13, [94]) := by
   rw [za9, c0, Nat.zero_add, show chr (tx8 ([94] ++ dgT 10 n)) 1 = chL (dgT 10 n) 0 from hfirst]
   unfold sgC
   rw [if_neg (by decide), if_pos rfl, if_neg (by omega), if_neg (by omega)]
  unfold zbm
  rw [e]
  rw [if_neg (by decide), if_pos (by decide), hsz]
  exact hnum
 ·have c0 : chr (tx8 ([94, 43] ++ dgT 10 n)) 0 = 94 := by rw [zay]; rfl
  have c1 : chr (tx8 ([94, 43] ++ dgT 10 n)) 1 = 43 := by rw [zay]; rfl
  refine ⟨by rw [hsz]; omega, ?_, Beg.of c0 (by omega)⟩
  rw [zfp c0 (by decide) (by decide) (by decide) (by decide) (by decide)]
  have e : zak (tx8 ([94, 43] ++ dgT 10 n)) 0 = (14, [94, 43]) := by rw [za9, c0, Nat.zero_add, c1]; rfl
  unfold zbm
  rw [e]
  rw [if_neg (by decide), if_pos (by decide), hsz]
  exact hnum
 ·have c0 : chr (tx8 ([94, 45] ++ dgT 10 n)) 0 = 94 := by rw [zay]; rfl
  have c1 : chr (tx8 ([94, 45] ++ dgT 10 n)) 1 = 45 := by rw [zay]; rfl
  refine ⟨by rw [hsz]; omega, ?_, Beg.of c0 (by omega)⟩
  rw [zfp c0 (by decide) (by decide) (by decide) (by decide) (by decide)]
  have e : zak (tx8 ([94, 45] ++ dgT 10 n)) 0 = (15, [94, 45]) := by rw [za9, c0, Nat.zero_add, c1]; rfl
  unfold zbm
  rw [e]
  rw [if_neg (by decide), if_pos (by decide), hsz]
  exact hnum
theorem pt_at {s : ByteArray} {d n : Nat} (h : n <= 1114111) (hag : Ag (tx8 (dgT 16 n)) 0 s d (dgT 16 n).length) (he : hxB (chr s (d + (dgT 16 n).length)) = false) : ptP s d = ((n : Int), d + (dgT 16 n).length, true) := by
 have hne := ziz 16 n (by omega)
 have hl := zdG 16 (by omega) 5 n (by omega)
 have hpos : 0 < (dgT 16 n).length := by
  cases hd : dgT 16 n with
  | nil => exact absurd hd hne
  | cons a b => simp
 have hr := zcU (by decide) hag (run16 n) he
 have hw : zbn s d 16 (dgT 16 n).length = (n : Int) := by
  rw [zf2 hag _ (Nat.le_refl _)]
  have h := zgV 16 (by omega) (by omega) n []
  rw [List.append_nil] at h
  exact h
 unfold ptP
 rw [hr, if_neg (by omega), show d + (dgT 16 n).length - d = (dgT 16 n).length from by omega, hw, decide_eq_true (by omega)]
def rnL (a b : Nat) : List UInt8 := [37, 117, 123] ++ dgT 16 a ++ [45] ++ dgT 16 b ++ [125]
theorem rnT_L (a b : Nat) : rnT a b = tx8 (rnL a b) := by
 unfold rnT rnL txO
 apply ByteArray.ext
 simp
theorem al_pts (a b : Nat) (hab : a <= b) (hb : b <= 1114111) : Aln (rnT a b) 5 a ⟨#[]⟩ b 0 0 0 := by
 rw [rnT_L]
 have hsz : (tx8 (rnL a b)).size = 3 + (dgT 16 a).length + 1 + (dgT 16 b).length + 1 := by
  rw [zb2]; unfold rnL; simp only [List.length_append, List.length_cons, List.length_nil]
 have c0 : chr (tx8 (rnL a b)) 0 = 37 := by rw [zay]; rfl
 have c1 : chr (tx8 (rnL a b)) 1 = 117 := by rw [zay]; rfl
 have c2 : chr (tx8 (rnL a b)) 2 = 123 := by rw [zay]; rfl
 have hA : Ag (tx8 (dgT 16 a)) 0 (tx8 (rnL a b)) 3 (dgT 16 a).length := by
  have := zla [37, 117, 123] (dgT 16 a) ([45] ++ dgT 16 b ++ [125])
  rwa [show [37, 117, 123] ++ dgT 16 a ++ ([45] ++ dgT 16 b ++ [125]) = rnL a b from by unfold rnL; simp] at this
 have hB : Ag (tx8 (dgT 16 b)) 0 (tx8 (rnL a b)) (3 + (dgT 16 a).length + 1) (dgT 16 b).length := by
  have := zla ([37, 117, 123] ++ dgT 16 a ++ [45]) (dgT 16 b) [125]
  rwa [show ([37, 117, 123] ++ dgT 16 a ++ [45] : List UInt8).length = 3 + (dgT 16 a).length + 1 from by simp only [List.length_append, List.length_cons, List.length_nil]] at this
 have e1 : chr (tx8 (rnL a b)) (3 + (dgT 16 a).length) = 45 := by
  have := at0 ([37, 117, 123] ++ dgT 16 a) ([45] ++ dgT 16 b ++ [125])
  rw [show ([37, 117, 123] ++ dgT 16 a) ++ ([45] ++ dgT 16 b ++ [125]) = rnL a b from by unfold rnL; simp, show ([37, 117, 123] ++ dgT 16 a : List UInt8).length = 3 + (dgT 16 a).length from by simp only [List.length_append, List.length_cons, List.length_nil]] at this
  exact this
 have e2 : chr (tx8 (rnL a b)) (3 + (dgT 16 a).length + 1 + (dgT 16 b).length) = 125 := by
  have := at0 ([37, 117, 123] ++ dgT 16 a ++ [45] ++ dgT 16 b) [125]
  rw [show ([37, 117, 123] ++ dgT 16 a ++ [45] ++ dgT 16 b : List UInt8).length = 3 + (dgT 16 a).length + 1 + (dgT 16 b).length from by simp only [List.length_append, List.length_cons, List.length_nil]] at this
  exact this
 have p1 := pt_at (by omega) hA (by rw [e1]; decide)
 have p2 := pt_at hb hB (by rw [e2]; decide)
 refine ⟨by rw [hsz]; omega, ?_, Beg.of c0 (by omega)⟩
 unfold zaA
 rw [c0, if_neg (by decide), if_neg (by decide), if_neg (by decide), if_neg (by decide), if_pos rfl]
 unfold zcp
 have hp : pfx (tx8 (rnL a b)) 0 [37, 117, 123] = true := by
  unfold pfx; rw [c0]
  unfold pfx; rw [Nat.zero_add, c1]
  unfold pfx; rw [c2]
  rfl
 rw [if_pos hp]
 unfold zbQ
 rw [Nat.zero_add, p1]
 dsimp only
 rw [if_neg (by decide), if_pos e1, p2]
 dsimp only
 rw [if_neg (by simp; omega), if_pos e2, hsz]
 rfl
theorem al_pct (c : UInt8) (h : (cls c.toNat).2 = 0) : Aln (tx8 [37, c]) 28 0 (tx8 [c]) (wd (cls c.toNat).1 0) (wd (cls c.toNat).1 1) (wd (cls c.toNat).1 2) (wd (cls c.toNat).1 3) := by
 have n1 : c.toNat ≠ 101 := by intro q; rw [q] at h; revert h; decide
 have n2 : c.toNat ≠ 102 := by intro q; rw [q] at h; revert h; decide
 have c0 : chr (tx8 [37, c]) 0 = 37 := by rw [zay]; rfl
 have c1 : chr (tx8 [37, c]) 1 = (c.toNat : Int) := by rw [zay]; rfl
 have c2 : chr (tx8 [37, c]) 2 = -1 := by rw [zay]; rfl
 refine ⟨by show 0 < 2; omega, ?_, Beg.of c0 (by omega)⟩
 unfold zaA
 rw [c0, if_neg (by decide), if_neg (by decide), if_neg (by decide), if_neg (by decide), if_pos rfl]
 unfold zcp
 have hp : pfx (tx8 [37, c]) 0 [37, 117, 123] = false := by
  unfold pfx
  unfold pfx
  unfold pfx
  rw [Nat.zero_add, show (1 : Nat) + 1 = 2 from rfl, c2]
  simp
 have e : zak (tx8 [37, c]) 0 = (0, []) := by
  rw [za9, c0, Nat.zero_add, c1]
  unfold sgC
  rw [if_pos rfl, if_neg (by omega), if_neg (by omega)]
 rw [if_neg (by rw [hp]; decide), e]
 rw [if_neg (by decide), Nat.zero_add, c1, Int.toNat_natCast, if_pos ⟨by show 1 < 2; omega, h⟩]
 congr 2
theorem zqv : Aln (tx8 [123, 58]) 21 0 ⟨#[]⟩ 0 0 0 0 := by
 have c0 : chr (tx8 [123, 58]) 0 = 123 := by rw [zay]; rfl
 have c1 : chr (tx8 [123, 58]) 1 = 58 := by rw [zay]; rfl
 have c2 : chr (tx8 [123, 58]) 2 = -1 := by rw [zay]; rfl
 refine ⟨by show 0 < 2; omega, ?_, Beg.of c0 (by omega)⟩
 rw [zfp c0 (by decide) (by decide) (by decide) (by decide) (by decide)]
 have e : zak (tx8 [123, 58]) 0 = (21, [123, 58]) := by rw [za9, c0, Nat.zero_add, c1]; rfl
 unfold zbm
 rw [e]
 rw [if_neg (by decide), if_neg (by decide), if_pos (by decide)]
 show zck (tx8 [123, 58]) 0 2 = _
 unfold zck
 rw [c2, if_neg (by decide)]
 rfl
theorem al_grp {s : ByteArray} (h : zfo s = true) : Aln (⟨#[123, 58]⟩ ++ (s ++ ⟨#[58]⟩)) 21 0 s 0 0 0 0 := by
 unfold zfo at h
 simp only [Bool.and_eq_true, decide_eq_true_eq, beq_iff_eq] at h
 obtain ⟨⟨⟨h1, h2⟩, h3⟩, h4⟩ := h
 obtain ⟨l, rfl⟩ : ∃ l : List UInt8, s = tx8 l := ⟨s.data.toList, by apply ByteArray.ext; simp⟩
 have hX : (⟨#[123, 58]⟩ ++ (tx8 l ++ ⟨#[58]⟩) : ByteArray) = tx8 ([123, 58] ++ l ++ [58]) := by apply ByteArray.ext; simp
 rw [hX]
 rw [zb2] at h1 h2 h4
 have hag := zla [123, 58] l [58]
 have c0 : chr (tx8 ([123, 58] ++ l ++ [58])) 0 = 123 := by rw [zay]; rfl
 have c1 : chr (tx8 ([123, 58] ++ l ++ [58])) 1 = 58 := by rw [zay]; rfl
 have c2 : chr (tx8 ([123, 58] ++ l ++ [58])) 2 = chr (tx8 l) 0 := hag 0 h1
 have ce : chr (tx8 ([123, 58] ++ l ++ [58])) (2 + l.length) = 58 := by
  have := at0 ([123, 58] ++ l) [58]
  rw [show ([123, 58] ++ l : List UInt8).length = 2 + l.length from by simp only [List.length_append, List.length_cons, List.length_nil]] at this
  exact this
 have hr : spN nmB (tx8 ([123, 58] ++ l ++ [58])) 2 = 2 + l.length := zcU (by decide) hag (by rw [h4, Nat.zero_add]) (by show nmB (chr _ (2 + l.length)) = false; rw [ce]; decide)
 have hsz : (tx8 ([123, 58] ++ l ++ [58])).size = 2 + l.length + 1 := by rw [zb2]; simp only [List.length_append, List.length_cons, List.length_nil]
 refine ⟨by rw [hsz]; omega, ?_, Beg.of c0 (by omega)⟩
 rw [zfp c0 (by decide) (by decide) (by decide) (by decide) (by decide)]
 have e : zak (tx8 ([123, 58] ++ l ++ [58])) 0 = (21, [123, 58]) := by rw [za9, c0, Nat.zero_add, c1]; rfl
 unfold zbm
 rw [e]
 rw [if_neg (by decide), if_neg (by decide), if_pos (by decide)]
 show zck _ 0 2 = _
 unfold zck
 rw [c2, if_pos h3, hr, if_neg (by omega), if_pos ce, hsz]
 have hx : (tx8 ([123, 58] ++ l ++ [58])).extract 2 (2 + l.length) = tx8 l := by
  apply ByteArray.ext
  simp [ByteArray.data_extract]
 rw [hx]
 rfl
theorem al_lit (s : ByteArray) (h : s.size <= 255) : Aln (Q.zac (Q.qT s)) 2 0 s 0 0 0 0 := by
 have hq : (Q.qT s).length <= 4 * s.size + 2 := by
  have h := (Q.zhA s s.size).1
  rw [<- Q.zhz s s.size (Nat.le_refl _), List.length_append, List.length_singleton]
  omega
 have hsz : (Q.zac (Q.qT s)).size = (Q.qT s).length := Q.zam _
 have c0 : chr (Q.zac (Q.qT s)) 0 = 39 := by
  rw [<- zjk, Q.zdu (Q.zpL s)]
  rfl
 have hpos : 0 < (Q.zac (Q.qT s)).size := zaD (by rw [c0]; omega)
 have hr := Q.zlb s (by omega)
 have hl := zil (Q.zac (Q.qT s)) 0 (by omega) (by omega) (.inl c0)
 refine ⟨hpos, ?_, Beg.of c0 (by omega)⟩
 unfold zaA
 rw [c0, if_neg (by decide), if_neg (by decide), if_pos (by decide), <- hl]
 rw [show (((0 : Nat) : Int)) = 0 from rfl, hr]
 unfold zkE
 dsimp only
 rw [if_neg (by rw [Q.zfP]; omega), hsz, <- q_text, Q.zfm]
 rfl
theorem al_cls (x : BitVec 256) : Aln (tx8 (shT x)) 3 0 ⟨#[]⟩ (wd x 0) (wd x 1) (wd x 2) (wd x 3) := by
 have hr := zkY x
 have c0 : chr (tx8 (shT x)) 0 = 91 := by
  rw [zay]
  unfold shT
  split <;> rfl
 refine ⟨zaD (by rw [c0]; omega), ?_, Beg.of c0 (by omega)⟩
 unfold zaA
 rw [c0, if_neg (by decide), if_neg (by decide), if_neg (by decide), if_pos rfl]
 rw [show (((0 : Nat) : Int)) = 0 from rfl, hr]
 rfl
def zqw (r : Sum Tk (Nat × Int)) (k : Int) (n : Nat) : Bool := match r with
 | .inl t => t.kd == k && t.nn == 0 && t.fr == 0 && t.en == (n : Int) && t.tx.data.toList == [] && t.s0 == 0 && t.s1 == 0 && t.s2 == 0 && t.s3 == 0
 | .inr _ => false
theorem znc {r : Sum Tk (Nat × Int)} {k : Int} {n : Nat} (h : zqw r k n = true) : r = .inl ⟨k, 0, 0, (n : Int), ⟨#[]⟩, 0, 0, 0, 0⟩ := by
 cases r with
 | inr q => cases h
 | inl t =>
  obtain ⟨a0, a1, a2, a3, a4, a5, a6, a7, a8⟩ := t
  simp only [zqw, Bool.and_eq_true, beq_iff_eq] at h
  obtain ⟨⟨⟨⟨⟨⟨⟨⟨h0, h1⟩, h2⟩, h3⟩, h4⟩, h5⟩, h6⟩, h7⟩, h8⟩ := h
  have h4 : a4 = ⟨#[]⟩ := by apply ByteArray.ext; simpa using h4
  subst h0 h1 h2 h3 h4 h5 h6 h7 h8
  rfl
def sgX (k : Nat) : List UInt8 := if k = 29 then [37, 101] else if k = 30 then [37, 102] else sgn k
def begB (l : List UInt8) : Bool := decide (0 < l.length) && !(chL l 0 == 9) && !(chL l 0 == 10) && !(chL l 0 == 13) && !(chL l 0 == 32) && !(chL l 0 == 45 && chL l 1 == 45)
theorem sg_all : ∀ k, k < 31 -> (1 <= k /\ k ≠ 1 /\ k ≠ 21 /\ k ≠ 2 /\ k ≠ 3 /\ k ≠ 28 /\ k ≠ 5 /\ k ≠ 4 /\ k ≠ 13 /\ k ≠ 14 /\ k ≠ 15) -> (zqw (zaA (tx8 (sgX k)) 0) k (sgX k).length && begB (sgX k)) = true := by decide +kernel
theorem al_sig (k : Nat) (h1 : k < 31) (h2 : 1 <= k /\ k ≠ 1 /\ k ≠ 21 /\ k ≠ 2 /\ k ≠ 3 /\ k ≠ 28 /\ k ≠ 5 /\ k ≠ 4 /\ k ≠ 13 /\ k ≠ 14 /\ k ≠ 15) : Aln (tx8 (sgX k)) k 0 ⟨#[]⟩ 0 0 0 0 := by
 have h := sg_all k h1 h2
 obtain ⟨h3, h4⟩ := Bool.and_eq_true_iff.1 h
 simp only [begB, Bool.and_eq_true, decide_eq_true_eq, Bool.not_eq_true', beq_eq_false_iff_ne, Bool.and_eq_false_iff] at h4
 obtain ⟨⟨⟨⟨⟨g0, g1⟩, g2⟩, g3⟩, g4⟩, g5⟩ := h4
 refine ⟨g0, znc h3, ⟨?_, ?_⟩⟩
 ·rw [zay]; omega
 ·rw [zay, zay]; omega
theorem ziC (s : ByteArray) : (Q.qT s).length <= 4 * s.size + 2 := by
 have h := (Q.zhA s s.size).1
 rw [<- Q.zhz s s.size (Nat.le_refl _), List.length_append, List.length_singleton]
 omega
theorem gtK_le (k : Int) : gtK k <= 999999 := by unfold gtK; (repeat' split) <;> omega
theorem bcells (a b : List UInt8) : Lib.byteCells (a ++ b) = Lib.byteCells a ++ Lib.byteCells b := by unfold Lib.byteCells; rw [List.map_append]
theorem scells (s : ByteArray) : Lib.strCells s = Lib.byteCells s.data.toList := rfl
def lkT (t : Tk) : Tk := { t with fr := 0, en := 0 }
theorem lk_get {L M : List Tk} (h : L.map lkT = M.map lkT) {k : Nat} {t : Tk} (hk : L[k]? = some t) : ∃ u, M[k]? = some u /\ lkT u = lkT t := by
 have h1 : (L.map lkT)[k]? = some (lkT t) := by rw [List.getElem?_map, hk]; rfl
 rw [h, List.getElem?_map] at h1
 cases hm : M[k]? with
 | none => rw [hm] at h1; cases h1
 | some u => rw [hm] at h1; exact ⟨u, rfl, by simpa using h1⟩
end Go.Proofs.YtnpifgcgjgddoaaGreatDoor
