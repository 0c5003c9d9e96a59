/- DERIVED. Plain mathematics and walks, laid together (13). -/
import Derived.Deep.WholeRow
import Derived.Deep.MidRow
import Derived.BigQuiet
import Derived.Test.YtkihfkcmcdiajaaGreatDoorPb12
set_option maxRecDepth 100000
set_option maxHeartbeats 8000000
namespace Go.Proofs.YtkihfkcmcdiajaaGreatDoor
open Go.RowKit
theorem zpv (l : List (Int × Int)) (hl : ∀ p ∈ l, p.2 <= 255) (s : BitVec 256) (j : Nat) : (unL l s).getLsbD j = true ↔ s.getLsbD j = true ∨ ∃ p ∈ l, p.1 <= (j : Int) /\ (j : Int) <= p.2 := by
 induction l generalizing s with
 | nil => simp [unL]
 | cons a l ih =>
  rw [zib, ih (fun p hp => hl p (List.mem_cons_of_mem _ hp)), BitVec.getLsbD_or, zdj _ _ (hl a (by simp))]
  simp only [Bool.or_eq_true, Bool.and_eq_true, decide_eq_true_eq, List.mem_cons, exists_eq_or_imp]
  constructor
  ·rintro ((h | h) | h)
   ·exact .inl h
   ·exact .inr (.inl h)
   ·exact .inr (.inr h)
  ·rintro (h | h | h)
   ·exact .inl (.inl h)
   ·exact .inl (.inr h)
   ·exact .inr h
theorem zk4 (j : Int) : ∀ (n : Nat) (bs : List Int), bs.length = n -> ((∃ p ∈ spL bs, p.1 <= j /\ j <= p.2) ↔ j ∈ bs) := by
 intro n
 induction n with
 | zero => intro bs h; rw [List.eq_nil_of_length_eq_zero h]; simp [spL]
 | succ n ih =>
  intro bs h
  rcases zbb bs with rfl | ⟨m, b, rfl⟩
  ·simp at h
  ·have ihm := ih m (by simp at h; exact h)
   have hok := znR m
   rw [zc5]
   rcases zbb (spL m) with hs | ⟨l, ⟨lo, hi⟩, hs⟩
   ·rw [hs] at ihm ⊢
    rw [List.mem_append, <- ihm]
    simp [zcn]
    omega
   ·rw [hs] at ihm hok ⊢
    have hle := hok (lo, hi) (by simp)
    simp only at hle
    rw [List.mem_append, <- ihm]
    by_cases e : hi + 1 = b
    ·rw [zbX _ _ _ _ e]
     constructor
     ·rintro ⟨p, hp, h1, h2⟩
      rcases List.mem_append.1 hp with h3 | h3
      ·exact .inl ⟨p, List.mem_append_left _ h3, h1, h2⟩
      ·simp at h3; subst h3
       simp only at h1 h2
       by_cases hj : j <= hi
       ·exact .inl ⟨(lo, hi), by simp, h1, hj⟩
       ·exact .inr (by simp; omega)
     ·rintro (⟨p, hp, h1, h2⟩ | h1)
      ·rcases List.mem_append.1 hp with h3 | h3
       ·exact ⟨p, List.mem_append_left _ h3, h1, h2⟩
       ·simp at h3; subst h3
        exact ⟨(lo, b), by simp, h1, by simp only at h2 ⊢; omega⟩
      ·simp at h1; subst h1
       exact ⟨(lo, j), by simp, by simp only; omega, by simp only; omega⟩
    ·rw [zbF _ _ _ _ e]
     constructor
     ·rintro ⟨p, hp, h1, h2⟩
      rcases List.mem_append.1 hp with h3 | h3
      ·exact .inl ⟨p, h3, h1, h2⟩
      ·simp at h3; subst h3; simp only at h1 h2; exact .inr (by simp; omega)
     ·rintro (⟨p, hp, h1, h2⟩ | h1)
      ·exact ⟨p, List.mem_append_left _ hp, h1, h2⟩
      ·simp at h1; subst h1; exact ⟨(j, j), by simp, by simp only; omega, by simp only; omega⟩
theorem zpw (x : BitVec 256) : unL (spL (bys x)) 0#256 = x := by
 apply BitVec.eq_of_getLsbD_eq
 intro j hj
 rw [Bool.eq_iff_iff, zpv _ (fun p hp => by have := zf8 x p hp; omega), zk4 (j : Int) _ (bys x) rfl]
 have h := zds x 256 (j : Int)
 rw [show bys x = zbl x 256 from rfl, h]
 simp
 omega
def isRd (r : Rd (BitVec 256 × Nat)) (x : BitVec 256) (n : Nat) : Bool := match r with
 | .inl p => p.1 == x && p.2 == n
 | .inr _ => false
theorem zpx {r : Rd (BitVec 256 × Nat)} {x : BitVec 256} {n : Nat} (h : isRd r x n = true) : r = .inl (x, n) := by
 cases r with
 | inr q => cases h
 | inl p =>
  obtain ⟨a, b⟩ := p
  simp only [isRd, Bool.and_eq_true, beq_iff_eq] at h
  rw [h.1, h.2]
theorem zk5 (x : BitVec 256) : zam (tx8 (shT x)) 0 = .inl (x, (shT x).length) := by
 unfold shT
 cases hf : fulB x
 ·rw [if_neg (by simp)]
  have hL := zf8 x
  have hlen := zd1 x
  have hm := zgG _ hL
  have hml := zh9 (spL (bys x))
  have key := zfc _ hL [91] 0#256
  rw [zpw] at key
  generalize zdg (spL (bys x)) = M at *
  have e0 : chr (tx8 (91 :: M ++ [93])) 0 = 91 := by rw [zaP]; rfl
  have e1 : chr (tx8 (91 :: M ++ [93])) 1 = chL (M ++ [93]) 0 := atj [91] (M ++ [93]) 0
  have hsz : (tx8 (91 :: M ++ [93])).size = M.length + 2 := by rw [zeS]; simp
  have k := key ((tx8 (91 :: M ++ [93])).size + 1) (by rw [hsz]; omega)
  have hr : zam (tx8 (91 :: M ++ [93])) 0 = .inl (x, M.length + 2) := by
   unfold zam
   rw [if_neg (by omega), show Int.toNat 0 = 0 from rfl, if_pos e0, if_neg (by show ¬ chr _ 1 = 94; rw [e1]; exact hm.2)]
   show zeN (zac (tx8 ([91] ++ (M ++ [93]))) _ 0#256 1) = _
   rw [show zac (tx8 ([91] ++ (M ++ [93]))) ((tx8 (91 :: M ++ [93])).size + 1) 0#256 1 = .inl (x, [91].length + M.length) from k]
   show Sum.inl (x, [91].length + M.length + 1) = _
   congr 2
   simp
   omega
  rw [hr]
  congr 2
  simp
 ·rw [if_pos rfl]
  have hx : x = ~~~ 0#256 := by simpa [fulB] using hf
  rw [hx]
  exact zpx (by decide +kernel)
theorem zhs {s : ByteArray} {i a : Nat} {c : Int} (hi : i <= s.size) (h : zab s i = .inr (a, c)) : a <= s.size := by
 unfold zab at h
 split at h
 ·unfold zaR at h
  split at h
  ·simp at h
  ·simp only [Sum.inr.injEq, Prod.mk.injEq] at h; omega
 ·split at h
  ·simp only [Sum.inr.injEq, Prod.mk.injEq] at h; omega
  ·rename_i lo m hm
   split at h
   ·rename_i hc
    have hlt : m < s.size := zau (by rw [hc]; omega)
    split at h
    ·simp only [Sum.inr.injEq, Prod.mk.injEq] at h; omega
    ·split at h
     ·simp only [Sum.inr.injEq, Prod.mk.injEq] at h; omega
     ·simp at h
   ·simp at h
theorem zd9 {s : ByteArray} : ∀ {f : Nat} {x : BitVec 256} {i a : Nat} {c : Int}, i <= s.size -> zac s f x i = .inr (a, c) -> a <= s.size := by
 intro f
 induction f with
 | zero => intro x i a c hi h; simp only [zac, Sum.inr.injEq, Prod.mk.injEq] at h; omega
 | succ f ih =>
  intro x i a c hi h
  by_cases hc : chr s i = 93
  ·rw [za7 hc] at h; simp at h
  ·cases hm : zab s i with
   | inr pq =>
    obtain ⟨a', c'⟩ := pq
    rw [zaA hc hm] at h; simp only [Sum.inr.injEq, Prod.mk.injEq] at h; rw [<- h.1]; exact zhs hi hm
   | inl p => obtain ⟨y, n⟩ := p; rw [zaq hc hm] at h; exact ih (zb4 hm).2 h
theorem zk6 {s : ByteArray} {i : Int} {a : Nat} {c : Int} (h : zam s i = .inr (a, c)) : a <= s.size := by
 unfold zam at h
 split at h
 ·simp only [Sum.inr.injEq, Prod.mk.injEq] at h; omega
 ·rename_i hr
  split at h
  ·rename_i h1
   have hlt : i.toNat < s.size := zau (by rw [h1]; omega)
   split at h
   ·rename_i h2
    have hlt2 : i.toNat + 1 < s.size := zau (by rw [h2]; omega)
    cases hm : zac s (s.size + 1) 0#256 (i.toNat + 2) with
    | inr pq =>
     obtain ⟨a', c'⟩ := pq
     rw [hm] at h; simp only [zcN, Sum.inr.injEq, Prod.mk.injEq] at h; rw [<- h.1]; exact zd9 (by omega) hm
    | inl p => rw [hm] at h; simp [zcN] at h
   ·cases hm : zac s (s.size + 1) 0#256 (i.toNat + 1) with
    | inr pq =>
     obtain ⟨a', c'⟩ := pq
     rw [hm] at h; simp only [zeN, Sum.inr.injEq, Prod.mk.injEq] at h; rw [<- h.1]; exact zd9 (by omega) hm
    | inl p => rw [hm] at h; simp [zeN] at h
  ·simp only [Sum.inr.injEq, Prod.mk.injEq] at h; omega
theorem zic {P : Int -> Bool} {s : ByteArray} (hn : P (-1) = false) {i e : Nat} (hie : i <= e) (h : ∀ k, i <= k -> k < e -> P (chr s k) = true) (he : P (chr s e) = false) : spN P s i = e := by
 obtain ⟨h1, _, h3, h4⟩ := zbd P s hn _ i rfl
 by_cases q : spN P s i < e
 ·rw [h _ h1 q] at h3; cases h3
 ·by_cases q2 : e < spN P s i
  ·rw [h4 e hie q2] at he; cases he
  ·omega
def Ag (s : ByteArray) (b : Nat) (s' : ByteArray) (b' : Nat) (m : Nat) : Prop := ∀ k, k < m -> chr s' (b' + k) = chr s (b + k)
theorem Ag.at {s s' : ByteArray} {b b' m : Nat} (h : Ag s b s' b' m) {j j' : Nat} (hb : b <= j) (hj : j < b + m) (e : j' = b' + (j - b)) : chr s' j' = chr s j := by
 have := h (j - b) (by omega)
 rw [show b + (j - b) = j from by omega] at this
 rw [e]; exact this
theorem Ag.sub {s s' : ByteArray} {b b' m : Nat} (h : Ag s b s' b' m) (d : Nat) {m2 : Nat} (hm : d + m2 <= m) : Ag s (b + d) s' (b' + d) m2 := fun k hk => by
 have := h (d + k) (by omega)
 rw [Nat.add_assoc, Nat.add_assoc]; exact this
theorem zc8 {P : Int -> Bool} {s s' : ByteArray} (hn : P (-1) = false) {i i' m : Nat} (h : Ag s i s' i' m) (hs : spN P s i = i + m) (he : P (chr s' (i' + m)) = false) : spN P s' i' = i' + m := by
 obtain ⟨_, _, _, h4⟩ := zbd P s hn _ i rfl
 refine zic hn (by omega) (fun k k1 k2 => ?_) he
 have := h (k - i') (by omega)
 rw [show i' + (k - i') = k from by omega] at this
 rw [this]
 exact h4 _ (by omega) (by omega)
theorem zga (s : ByteArray) (i : Nat) (h : i <= s.size) : i <= zbm s i := (zcf h).1
theorem zeT {s s' : ByteArray} {b b' m : Nat} (h : Ag s b s' b' m) (h1 : b + m <= s.size) (h2 : b' + m <= s'.size) : s'.extract b' (b' + m) = s.extract b (b + m) := by
 apply ByteArray.ext
 apply Array.ext
 ·show (s'.extract b' (b' + m)).size = (s.extract b (b + m)).size
  rw [ByteArray.size_extract, ByteArray.size_extract]; omega
 ·intro k hk1 hk2
  have hk1' : k < (s'.extract b' (b' + m)).size := hk1
  have hk2' : k < (s.extract b (b + m)).size := hk2
  have hm : k < m := by rw [ByteArray.size_extract] at hk2'; omega
  have e1 := zew (s := s') (a := b') (b := b' + m) (k := k) (by omega) h2
  have e2 := zew (s := s) (a := b) (b := b + m) (k := k) (by omega) h1
  rw [h k hm, <- e2, zal hk1', zal hk2'] at e1
  exact (UInt8.toNat_inj.1 (Int.ofNat_inj.1 e1) : (s'.extract b' (b' + m))[k] = (s.extract b (b + m))[k])
def mvT (t : Tk) (b' m : Nat) : Tk := { t with fr := b', en := (b' + m : Nat) }
theorem zmW {s s' : ByteArray} {i i' m c n : Nat} (ha : Ag s i s' i' m) (h : zck s i = some (c, n)) (hn : n <= i + m) : zck s' i' = some (c, i' + (n - i)) := by
 have h2 := zf6 h
 unfold zck at h ⊢
 have e1 : chr s' (i' + 1) = chr s (i + 1) := by
  by_cases q : 1 < m
  ·exact ha 1 q
  ·exfalso
   split at h; cases h; omega
   split at h; cases h; omega
   split at h; cases h; omega
   split at h; cases h; omega
   split at h; cases h; omega
   cases h
 rw [e1]
 split at h
 ·next q => rw [if_pos q]; cases h; rw [show i + 2 - i = 2 from by omega]
 next q1 =>
 rw [if_neg q1]
 split at h
 ·next q => rw [if_pos q]; cases h; rw [show i + 2 - i = 2 from by omega]
 next q2 =>
 rw [if_neg q2]
 split at h
 ·next q => rw [if_pos q]; cases h; rw [show i + 2 - i = 2 from by omega]
 next q3 =>
 rw [if_neg q3]
 split at h
 ·next q => rw [if_pos q]; cases h; rw [show i + 2 - i = 2 from by omega]
 next q4 =>
 rw [if_neg q4]
 split at h
 ·next q =>
  cases h
  rw [ha 2 (by omega), ha 3 (by omega), if_pos q, show i + 4 - i = 4 from by omega]
 ·cases h
theorem zmX (s s' : ByteArray) (q : Int) (b b' : Nat) (hq : 0 <= q) : ∀ (f f' : Nat) (out : List Int) (i i' m : Nat) (t : Tk) (e : Nat), zbs s q b f out i = .inl t -> t.en = e -> e = i + m -> Ag s i s' i' m -> m <= f' -> zbs s' q b' f' out i' = .inl { t with fr := b', en := (i' + m : Nat) } := by
 intro f
 induction f with
 | zero => intro f' out i i' m t e h; rw [zbs] at h; cases h
 | succ f ih =>
  intro f' out i i' m t e h he hm ha hf
  obtain ⟨e2, x1, x2, x3⟩ := zdF s q b hq _ _ _ _ h
  have : e2 = e := by omega
  subst this
  obtain ⟨f', rfl⟩ : ∃ g, f' = g + 1 := ⟨f' - 1, by omega⟩
  have h0 := ha 0 (by omega)
  rw [Nat.add_zero, Nat.add_zero] at h0
  rw [zbs] at h ⊢
  rw [h0]
  split at h
  ·cases h
  next h1 =>
  rw [if_neg h1]
  split at h
  ·next h2 =>
   rw [if_pos h2]
   split at h
   ·cases h
   next h3 =>
   rw [if_neg h3]
   cases h
   have : m = 1 := by
    have he : ((i + 1 : Nat) : Int) = ((i + m : Nat) : Int) := by rw [<- hm, <- he]; rfl
    omega
   subst this
   rfl
  next h2 =>
  rw [if_neg h2]
  split at h
  ·cases h
  next h3 =>
  rw [if_neg h3]
  split at h
  ·next h4 =>
   rw [if_pos h4]
   have h5 := zdF s q b hq _ _ _ _ h
   obtain ⟨e3, y1, y2, y3⟩ := h5
   have := ih f' (out ++ [chr s i]) (i + 1) (i' + 1) (m - 1) t e2 h he (by omega) (ha.sub 1 (by omega)) (by omega)
   rw [this, show i' + 1 + (m - 1) = i' + m from by omega]
  next h4 =>
  rw [if_neg h4]
  cases hx : zck s i with
  | none => rw [hx] at h; cases h
  | some p =>
   obtain ⟨c, n⟩ := p
   rw [hx] at h
   have h5 := zf6 hx
   obtain ⟨e3, y1, y2, y3⟩ := zdF s q b hq _ _ _ _ h
   rw [zmW ha hx (by omega)]
   have := ih f' (out ++ [(c : Int)]) n (i' + (n - i)) (m - (n - i)) t e2 h he (by omega) (by
    have h7 := ha.sub (n - i) (m2 := m - (n - i)) (by omega)
    rwa [show i + (n - i) = n from by omega] at h7) (by omega)
   show zbs s' q b' f' (out ++ [(c : Int)]) (i' + (n - i)) = _
   rw [this, show i' + (n - i) + (m - (n - i)) = i' + m from by omega]
theorem zeU {s s' : ByteArray} {i i' m c n : Nat} (ha : Ag s i s' i' m) (h : zag s i = some (c, n)) (hn : n <= i + m) : zag s' i' = some (c, i' + (n - i)) := by
 have hb := zaV h
 have h0 := ha 0 (by omega)
 rw [Nat.add_zero, Nat.add_zero] at h0
 unfold zag at h ⊢
 rw [h0]
 split at h
 ·next q =>
  rw [if_pos q]
  unfold zax at h ⊢
  have hm : 2 <= n - i := by
   split at h; cases h; omega
   split at h; cases h; omega
   split at h; cases h; omega
   split at h
   ·unfold zaZ at h
    split at h
    ·cases h; omega
    ·cases h
   split at h
   ·cases h; omega
   ·cases h
  rw [ha 1 (by omega)]
  split at h
  ·next q => rw [if_pos q]; cases h; rw [show i + 2 - i = 2 from by omega]
  next q1 =>
  rw [if_neg q1]
  split at h
  ·next q => rw [if_pos q]; cases h; rw [show i + 2 - i = 2 from by omega]
  next q2 =>
  rw [if_neg q2]
  split at h
  ·next q => rw [if_pos q]; cases h; rw [show i + 2 - i = 2 from by omega]
  next q3 =>
  rw [if_neg q3]
  split at h
  ·next q =>
   rw [if_pos q]
   unfold zaZ at h ⊢
   split at h
   ·next q5 =>
    cases h
    rw [ha 2 (by omega), ha 3 (by omega), if_pos q5, show i + 4 - i = 4 from by omega]
   ·cases h
  next q4 =>
  rw [if_neg q4]
  split at h
  ·next q5 => rw [if_pos q5]; cases h; rw [show i + 2 - i = 2 from by omega]
  ·cases h
 ·next q =>
  rw [if_neg q]
  split at h
  ·cases h
  ·next q2 => rw [if_neg q2]; cases h; rw [show i + 1 - i = 1 from by omega]
theorem zht {s s' : ByteArray} {i i' m n : Nat} {y : BitVec 256} (ha : Ag s i s' i' m) (h : zab s i = .inl (y, n)) (hn : n < i + m) : zab s' i' = .inl (y, i' + (n - i)) := by
 have hb := zb4 h
 have h0 := ha 0 (by omega)
 rw [Nat.add_zero, Nat.add_zero] at h0
 unfold zab at h ⊢
 rw [h0]
 split at h
 ·next q =>
  rw [if_pos q]
  unfold zaR at h ⊢
  split at h
  ·next q2 =>
   cases h
   have e1 := ha 1 (by omega)
   have hlt : i' + 1 < s'.size := zau (by rw [e1, zal q2.1]; omega)
   rw [e1, if_pos ⟨hlt, q2.2⟩, show i + 2 - i = 2 from by omega]
  ·cases h
 ·next q =>
  rw [if_neg q]
  cases hi : zag s i with
  | none => rw [hi] at h; cases h
  | some p =>
   obtain ⟨lo, n1⟩ := p
   rw [hi] at h
   have hb1 := zaV hi
   dsimp only at h
   split at h
   ·next q45 =>
    cases hj : zag s (n1 + 1) with
    | none => rw [hj] at h; cases h
    | some p =>
     obtain ⟨hi2, e⟩ := p
     rw [hj] at h
     dsimp only at h
     have hb2 := zaV hj
     split at h
     ·cases h
     ·next q6 =>
      cases h
      rw [zeU ha hi (by omega)]
      dsimp only
      rw [ha.at (j := n1) (by omega) (by omega) rfl, if_pos q45]
      have := zeU (i' := i' + (n1 - i) + 1) (m := i + m - (n1 + 1)) (by
       have h7 := ha.sub (n1 + 1 - i) (m2 := i + m - (n1 + 1)) (by omega)
       rwa [show i + (n1 + 1 - i) = n1 + 1 from by omega, show i' + (n1 + 1 - i) = i' + (n1 - i) + 1 from by omega] at h7) hj (by omega)
      rw [this]
      dsimp only
      rw [if_neg q6, show i' + (n1 - i) + 1 + (n - (n1 + 1)) = i' + (n - i) from by omega]
   ·next q45 =>
    cases h
    rw [zeU ha hi (by omega)]
    dsimp only
    rw [ha.at (j := n) (by omega) (by omega) rfl, if_neg q45]
theorem zea (s s' : ByteArray) : ∀ (f f' : Nat) (x y : BitVec 256) (i i' m n : Nat), zac s f x i = .inl (y, n) -> Ag s i s' i' m -> n < i + m -> n - i < f' -> zac s' f' x i' = .inl (y, i' + (n - i)) := by
 intro f
 induction f with
 | zero => intro f' x y i i' m n h; rw [zac] at h; cases h
 | succ f ih =>
  intro f' x y i i' m n h ha hn hf
  have hok := zaU h
  obtain ⟨f', rfl⟩ : ∃ g, f' = g + 1 := ⟨f' - 1, by omega⟩
  have h0 := ha 0 (by omega)
  rw [Nat.add_zero, Nat.add_zero] at h0
  rw [zac] at h ⊢
  rw [h0]
  split at h
  ·next q => cases h; rw [if_pos q, Nat.sub_self, Nat.add_zero]
  ·next q =>
   rw [if_neg q]
   cases hm : zab s i with
   | inr p => obtain ⟨a, c⟩ := p; rw [hm] at h; cases h
   | inl p =>
    obtain ⟨z, k⟩ := p
    rw [hm] at h
    dsimp only at h
    have hb := zb4 hm
    have hok2 := zaU h
    rw [zht ha hm (by omega)]
    dsimp only
    have := ih f' (x ||| z) y k (i' + (k - i)) (i + m - k) n h (by
     have h7 := ha.sub (k - i) (m2 := i + m - k) (by omega)
     rwa [show i + (k - i) = k from by omega] at h7) (by omega) (by omega)
    rw [this, show i' + (k - i) + (n - k) = i' + (n - i) from by omega]
def sgC (c0 c1 : Int) : Int × List UInt8 :=
 if c0 = 37 then (if c1 = 101 then (29, [37, 101]) else if c1 = 102 then (30, [37, 102]) else (0, []))
 else if c0 = 94 then (if c1 = 43 then (14, [94, 43]) else if c1 = 45 then (15, [94, 45]) else (13, [94]))
 else if c0 = 60 then (if c1 = 45 then (6, [60, 45]) else (0, []))
 else if c0 = 45 then (if c1 = 62 then (27, [45, 62]) else (0, []))
 else if c0 = 47 then (7, [47])
 else if c0 = 38 then (8, [38])
 else if c0 = 33 then (9, [33])
 else if c0 = 63 then (10, [63])
 else if c0 = 42 then (11, [42])
 else if c0 = 43 then (12, [43])
 else if c0 = 40 then (16, [40])
 else if c0 = 41 then (17, [41])
 else if c0 = 46 then (18, [46])
 else if c0 = 123 then (if c1 = 58 then (21, [123, 58]) else if c1 = 124 then (23, [123, 124]) else if c1 = 126 then (25, [123, 126]) else (19, [123]))
 else if c0 = 58 then (if c1 = 125 then (22, [58, 125]) else (0, []))
 else if c0 = 124 then (if c1 = 125 then (24, [124, 125]) else (0, []))
 else if c0 = 126 then (if c1 = 125 then (26, [126, 125]) else (0, []))
 else if c0 = 125 then (20, [125]) else (0, [])
def pfC (c0 c1 : Int) : List UInt8 -> Bool
 | [] => true
 | [x] => c0 == (x.toNat : Int)
 | x :: y :: _ => c0 == (x.toNat : Int) && c1 == (y.toNat : Int)
def zdh (c0 c1 : Int) : List (Int × List UInt8) -> Int × List UInt8
 | [] => (0, [])
 | p :: l => if pfC c0 c1 p.2 = true then p else zdh c0 c1 l
theorem pfx_C (s : ByteArray) (b : Nat) (l : List UInt8) (h : l.length <= 2) : pfx s b l = pfC (chr s b) (chr s (b + 1)) l := by
 match l, h with
 | [], _ => rfl
 | [x], _ => show (chr s b == (x.toNat : Int) && true) = _; rw [Bool.and_true]; rfl
 | [x, y], _ => show (chr s b == (x.toNat : Int) && (chr s (b + 1) == (y.toNat : Int) && true)) = _; rw [Bool.and_true]; rfl
theorem sgGo_C (s : ByteArray) (b : Nat) : ∀ l : List (Int × List UInt8), (∀ p ∈ l, p.2.length <= 2) -> zhZ s b l = zdh (chr s b) (chr s (b + 1)) l := by
 intro l
 induction l with
 | nil => intro _; rfl
 | cons p l ih =>
  intro h
  rw [zhZ, zdh, pfx_C s b p.2 (h p (List.mem_cons_self ..)), ih (fun q hq => h q (List.mem_cons_of_mem _ hq))]
theorem zid (c0 c1 : Int) : zdh c0 c1 sgTab = sgC c0 c1 := by
 unfold sgC
 by_cases h37 : c0 = 37
 ·subst h37; simp [sgTab, zdh, pfC]
  try (by_cases a1 : c1 = 101 <;> by_cases a2 : c1 = 102 <;> by_cases a3 : c1 = 43 <;> by_cases a4 : c1 = 45 <;> by_cases a5 : c1 = 62 <;> by_cases a6 : c1 = 58 <;> by_cases a7 : c1 = 124 <;> by_cases a8 : c1 = 126 <;> by_cases a9 : c1 = 125 <;> simp [*])
 by_cases h94 : c0 = 94
 ·subst h94; simp [sgTab, zdh, pfC]
  try (by_cases a1 : c1 = 101 <;> by_cases a2 : c1 = 102 <;> by_cases a3 : c1 = 43 <;> by_cases a4 : c1 = 45 <;> by_cases a5 : c1 = 62 <;> by_cases a6 : c1 = 58 <;> by_cases a7 : c1 = 124 <;> by_cases a8 : c1 = 126 <;> by_cases a9 : c1 = 125 <;> simp [*])
 by_cases h60 : c0 = 60
 ·subst h60; simp [sgTab, zdh, pfC]
  try (by_cases a1 : c1 = 101 <;> by_cases a2 : c1 = 102 <;> by_cases a3 : c1 = 43 <;> by_cases a4 : c1 = 45 <;> by_cases a5 : c1 = 62 <;> by_cases a6 : c1 = 58 <;> by_cases a7 : c1 = 124 <;> by_cases a8 : c1 = 126 <;> by_cases a9 : c1 = 125 <;> simp [*])
 by_cases h45 : c0 = 45
 ·subst h45; simp [sgTab, zdh, pfC]
  try (by_cases a1 : c1 = 101 <;> by_cases a2 : c1 = 102 <;> by_cases a3 : c1 = 43 <;> by_cases a4 : c1 = 45 <;> by_cases a5 : c1 = 62 <;> by_cases a6 : c1 = 58 <;> by_cases a7 : c1 = 124 <;> by_cases a8 : c1 = 126 <;> by_cases a9 : c1 = 125 <;> simp [*])
 by_cases h47 : c0 = 47
 ·subst h47; simp [sgTab, zdh, pfC]
  try (by_cases a1 : c1 = 101 <;> by_cases a2 : c1 = 102 <;> by_cases a3 : c1 = 43 <;> by_cases a4 : c1 = 45 <;> by_cases a5 : c1 = 62 <;> by_cases a6 : c1 = 58 <;> by_cases a7 : c1 = 124 <;> by_cases a8 : c1 = 126 <;> by_cases a9 : c1 = 125 <;> simp [*])
 by_cases h38 : c0 = 38
 ·subst h38; simp [sgTab, zdh, pfC]
  try (by_cases a1 : c1 = 101 <;> by_cases a2 : c1 = 102 <;> by_cases a3 : c1 = 43 <;> by_cases a4 : c1 = 45 <;> by_cases a5 : c1 = 62 <;> by_cases a6 : c1 = 58 <;> by_cases a7 : c1 = 124 <;> by_cases a8 : c1 = 126 <;> by_cases a9 : c1 = 125 <;> simp [*])
 by_cases h33 : c0 = 33
 ·subst h33; simp [sgTab, zdh, pfC]
  try (by_cases a1 : c1 = 101 <;> by_cases a2 : c1 = 102 <;> by_cases a3 : c1 = 43 <;> by_cases a4 : c1 = 45 <;> by_cases a5 : c1 = 62 <;> by_cases a6 : c1 = 58 <;> by_cases a7 : c1 = 124 <;> by_cases a8 : c1 = 126 <;> by_cases a9 : c1 = 125 <;> simp [*])
 by_cases h63 : c0 = 63
 ·subst h63; simp [sgTab, zdh, pfC]
  try (by_cases a1 : c1 = 101 <;> by_cases a2 : c1 = 102 <;> by_cases a3 : c1 = 43 <;> by_cases a4 : c1 = 45 <;> by_cases a5 : c1 = 62 <;> by_cases a6 : c1 = 58 <;> by_cases a7 : c1 = 124 <;> by_cases a8 : c1 = 126 <;> by_cases a9 : c1 = 125 <;> simp [*])
 by_cases h42 : c0 = 42
 ·subst h42; simp [sgTab, zdh, pfC]
  try (by_cases a1 : c1 = 101 <;> by_cases a2 : c1 = 102 <;> by_cases a3 : c1 = 43 <;> by_cases a4 : c1 = 45 <;> by_cases a5 : c1 = 62 <;> by_cases a6 : c1 = 58 <;> by_cases a7 : c1 = 124 <;> by_cases a8 : c1 = 126 <;> by_cases a9 : c1 = 125 <;> simp [*])
 by_cases h43 : c0 = 43
 ·subst h43; simp [sgTab, zdh, pfC]
  try (by_cases a1 : c1 = 101 <;> by_cases a2 : c1 = 102 <;> by_cases a3 : c1 = 43 <;> by_cases a4 : c1 = 45 <;> by_cases a5 : c1 = 62 <;> by_cases a6 : c1 = 58 <;> by_cases a7 : c1 = 124 <;> by_cases a8 : c1 = 126 <;> by_cases a9 : c1 = 125 <;> simp [*])
 by_cases h40 : c0 = 40
 ·subst h40; simp [sgTab, zdh, pfC]
  try (by_cases a1 : c1 = 101 <;> by_cases a2 : c1 = 102 <;> by_cases a3 : c1 = 43 <;> by_cases a4 : c1 = 45 <;> by_cases a5 : c1 = 62 <;> by_cases a6 : c1 = 58 <;> by_cases a7 : c1 = 124 <;> by_cases a8 : c1 = 126 <;> by_cases a9 : c1 = 125 <;> simp [*])
 by_cases h41 : c0 = 41
 ·subst h41; simp [sgTab, zdh, pfC]
  try (by_cases a1 : c1 = 101 <;> by_cases a2 : c1 = 102 <;> by_cases a3 : c1 = 43 <;> by_cases a4 : c1 = 45 <;> by_cases a5 : c1 = 62 <;> by_cases a6 : c1 = 58 <;> by_cases a7 : c1 = 124 <;> by_cases a8 : c1 = 126 <;> by_cases a9 : c1 = 125 <;> simp [*])
 by_cases h46 : c0 = 46
 ·subst h46; simp [sgTab, zdh, pfC]
  try (by_cases a1 : c1 = 101 <;> by_cases a2 : c1 = 102 <;> by_cases a3 : c1 = 43 <;> by_cases a4 : c1 = 45 <;> by_cases a5 : c1 = 62 <;> by_cases a6 : c1 = 58 <;> by_cases a7 : c1 = 124 <;> by_cases a8 : c1 = 126 <;> by_cases a9 : c1 = 125 <;> simp [*])
 by_cases h123 : c0 = 123
 ·subst h123; simp [sgTab, zdh, pfC]
  try (by_cases a1 : c1 = 101 <;> by_cases a2 : c1 = 102 <;> by_cases a3 : c1 = 43 <;> by_cases a4 : c1 = 45 <;> by_cases a5 : c1 = 62 <;> by_cases a6 : c1 = 58 <;> by_cases a7 : c1 = 124 <;> by_cases a8 : c1 = 126 <;> by_cases a9 : c1 = 125 <;> simp [*])
 by_cases h58 : c0 = 58
 ·subst h58; simp [sgTab, zdh, pfC]
  try (by_cases a1 : c1 = 101 <;> by_cases a2 : c1 = 102 <;> by_cases a3 : c1 = 43 <;> by_cases a4 : c1 = 45 <;> by_cases a5 : c1 = 62 <;> by_cases a6 : c1 = 58 <;> by_cases a7 : c1 = 124 <;> by_cases a8 : c1 = 126 <;> by_cases a9 : c1 = 125 <;> simp [*])
 by_cases h124 : c0 = 124
 ·subst h124; simp [sgTab, zdh, pfC]
  try (by_cases a1 : c1 = 101 <;> by_cases a2 : c1 = 102 <;> by_cases a3 : c1 = 43 <;> by_cases a4 : c1 = 45 <;> by_cases a5 : c1 = 62 <;> by_cases a6 : c1 = 58 <;> by_cases a7 : c1 = 124 <;> by_cases a8 : c1 = 126 <;> by_cases a9 : c1 = 125 <;> simp [*])
 by_cases h126 : c0 = 126
 ·subst h126; simp [sgTab, zdh, pfC]
  try (by_cases a1 : c1 = 101 <;> by_cases a2 : c1 = 102 <;> by_cases a3 : c1 = 43 <;> by_cases a4 : c1 = 45 <;> by_cases a5 : c1 = 62 <;> by_cases a6 : c1 = 58 <;> by_cases a7 : c1 = 124 <;> by_cases a8 : c1 = 126 <;> by_cases a9 : c1 = 125 <;> simp [*])
 by_cases h125 : c0 = 125
 ·subst h125; simp [sgTab, zdh, pfC]
  try (by_cases a1 : c1 = 101 <;> by_cases a2 : c1 = 102 <;> by_cases a3 : c1 = 43 <;> by_cases a4 : c1 = 45 <;> by_cases a5 : c1 = 62 <;> by_cases a6 : c1 = 58 <;> by_cases a7 : c1 = 124 <;> by_cases a8 : c1 = 126 <;> by_cases a9 : c1 = 125 <;> simp [*])
 simp [sgTab, zdh, pfC, *]
theorem zbj (s : ByteArray) (b : Nat) : zap s b = sgC (chr s b) (chr s (b + 1)) := by
 rw [<- zid]
 exact sgGo_C s b sgTab (by decide)
def zk7 (c : Int) : Bool := !(nmB c) && !(c == 58) && !(c == 123) && !(c == 124) && !(c == 126)
def Fol (s : ByteArray) (e : Nat) (s' : ByteArray) (e' : Nat) : Prop :=
 zk7 (chr s' e') = true ∨ (chr s' e' = chr s e /\ (hdB (chr s e) = true -> ∃ r, spN nmB s e = e + r /\ spN nmB s' e' = e' + r /\ (chr s' (e' + r) = 58 -> chr s (e + r) = 58)))
theorem zb3 {c : Int} (h : zk7 c = true) : nmB c = false /\ c ≠ 58 /\ c ≠ 123 /\ c ≠ 124 /\ c ≠ 126 := by
 unfold zk7 at h
 simp only [Bool.and_eq_true, Bool.not_eq_true', beq_eq_false_iff_ne] at h
 exact ⟨h.1.1.1.1, h.1.1.1.2, h.1.1.2, h.1.2, h.2⟩
theorem zpy {c : Int} (h : nmB c = false) : dgB c = false /\ hdB c = false := by
 unfold nmB at h
 rw [Bool.or_eq_false_iff] at h
 exact ⟨h.2, h.1⟩
theorem Fol.nm {s s' : ByteArray} {e e' : Nat} (h : Fol s e s' e') (q : nmB (chr s e) = false) : nmB (chr s' e') = false := by
 rcases h with h | ⟨h, _⟩
 ·exact (zb3 h).1
 ·rw [h]; exact q
theorem Fol.dg {s s' : ByteArray} {e e' : Nat} (h : Fol s e s' e') (q : dgB (chr s e) = false) : dgB (chr s' e') = false := by
 rcases h with h | ⟨h, _⟩
 ·exact (zpy (zb3 h).1).1
 ·rw [h]; exact q
theorem Ag.in {s s' : ByteArray} {b b' m : Nat} (h : Ag s b s' b' m) (hm : 1 <= m) (hs : b + m <= s.size) : b' + m <= s'.size := by
 have h1 := h (m - 1) (by omega)
 have h2 := zal (s := s) (i := b + (m - 1)) (by omega)
 have := zau (s := s') (i := b' + (m - 1)) (by rw [h1, h2]; omega)
 omega
theorem zgb {s s' : ByteArray} {d d' m : Nat} {base : Int} (ha : Ag s d s' d' m) : ∀ k, k <= m -> zaB s' d' base k = zaB s d base k := by
 intro k
 induction k with
 | zero => intro _; rfl
 | succ k ih => intro hk; rw [zaB, zaB, ih (by omega), ha k (by omega)]
theorem zmY {s s' : ByteArray} {d d' m : Nat} {M n : Int} (h : zbx s d M = .inl n) (hm : spN dgB s d = d + m) (ha : Ag s d s' d' m) (hf : dgB (chr s' (d' + m)) = false) : zbx s' d' M = .inl n /\ spN dgB s' d' = d' + m := by
 have h1 := zc8 (P := dgB) (by decide) ha hm hf
 have h2 := zkW h
 have h0 := ha 0 (by omega)
 rw [Nat.add_zero, Nat.add_zero] at h0
 refine ⟨?_, h1⟩
 unfold zbx at h ⊢
 rw [h1, show d' + m - d' = m from by omega, h0, zgb ha m (Nat.le_refl _)]
 rw [hm, show d + m - d = m from by omega] at h
 exact h
theorem zhu {s s' : ByteArray} {b b' d d' m : Nat} {k : Int} {t : Tk} (h : nmR s b d k = .inl t) (hm : spN dgB s d = d + m) (ha : Ag s d s' d' m) (hf : dgB (chr s' (d' + m)) = false) : nmR s' b' d' k = .inl { t with fr := b', en := (d' + m : Nat) } := by
 unfold nmR at h ⊢
 cases hn : zbx s d (gtK k) with
 | inr e => rw [hn] at h; cases h
 | inl n =>
  obtain ⟨h1, h2⟩ := zmY hn hm ha hf
  rw [hn] at h
  cases h
  rw [h1, h2]
theorem zk8 {s s' : ByteArray} {b b' m : Nat} {t : Tk} (h : zca s b = .inl t) (hm : spN nmB s b = b + m) (h1 : 1 <= m) (hs : b + m <= s.size) (ha : Ag s b s' b' m) (hf : nmB (chr s' (b' + m)) = false) : zca s' b' = .inl (mvT t b' m) := by
 have h2 := zc8 (P := nmB) (by decide) ha hm hf
 have h3 := zeT ha hs (ha.in h1 hs)
 unfold zca at h ⊢
 rw [hm, show b + m - b = m from by omega] at h
 rw [h2, show b' + m - b' = m from by omega, h3]
 split at h
 ·cases h
 ·next q => cases h; rw [if_neg q]; rfl
theorem zhv {s s' : ByteArray} {a a' m : Nat} (h : (ptP s a).2.2 = true) (hm : (ptP s a).2.1 = a + m) (ha : Ag s a s' a' (m + 1)) : ptP s' a' = ((ptP s a).1, a' + m, true) := by
 have hst := (zbd hxB s (by decide) _ a rfl).2.2.1
 have hge := za4 hxB s (by decide) a
 unfold ptP at h hm ⊢
 split at h
 ·cases h
 next q =>
 rw [if_neg q] at hm
 dsimp only at h hm
 rw [hm] at hst q h
 have h1 : spN hxB s' a' = a' + m := zc8 (P := hxB) (by decide) (fun k hk => ha k (by omega)) hm (by rw [ha m (by omega)]; exact hst)
 rw [h1, hm, show a' + m - a' = m from by omega, show a + m - a = m from by omega, if_neg (by omega), if_neg (by omega), zgb (m := m) (fun k hk => ha k (by omega)) m (Nat.le_refl _)]
 rw [show a + m - a = m from by omega] at h
 rw [h]
theorem zmZ {s s' : ByteArray} {b b' m : Nat} {t : Tk} (hb : b + 3 <= s.size) (h : zb2 s b = .inl t) (he : t.en = (b + m : Nat)) (ha : Ag s b s' b' m) : zb2 s' b' = .inl (mvT t b' m) := by
 have h1 := zbQ hb
 unfold zb2 at h ⊢
 split at h
 ·cases h
 next q1 =>
 have q1 : (ptP s (b + 3)).2.2 = true := by cases hq : (ptP s (b + 3)).2.2; exact absurd hq q1; rfl
 split at h
 ·next h45 =>
  have h2 := zau (s := s) (i := (ptP s (b + 3)).2.1) (by omega)
  have h3 := zbQ (s := s) (a := (ptP s (b + 3)).2.1 + 1) (by omega)
  split at h
  ·cases h
  next q2 =>
  have q3 : (ptP s ((ptP s (b + 3)).2.1 + 1)).2.2 = true := by cases hq : (ptP s ((ptP s (b + 3)).2.1 + 1)).2.2; exact absurd (.inl hq) q2; rfl
  split at h
  ·next hc =>
   cases h
   dsimp only at he
   have he : (ptP s ((ptP s (b + 3)).2.1 + 1)).2.1 + 1 = b + m := by omega
   have hA := zhv (s' := s') (a' := b' + 3) (m := (ptP s (b + 3)).2.1 - (b + 3)) q1 (by omega) (by
    exact ha.sub 3 (by omega))
   have hB := zhv (s' := s') (a' := b' + ((ptP s (b + 3)).2.1 + 1 - b)) (m := (ptP s ((ptP s (b + 3)).2.1 + 1)).2.1 - ((ptP s (b + 3)).2.1 + 1)) q3 (by omega) (by
    have h7 := ha.sub ((ptP s (b + 3)).2.1 + 1 - b) (m2 := (ptP s ((ptP s (b + 3)).2.1 + 1)).2.1 - ((ptP s (b + 3)).2.1 + 1) + 1) (by omega)
    rwa [show b + ((ptP s (b + 3)).2.1 + 1 - b) = (ptP s (b + 3)).2.1 + 1 from by omega] at h7)
   have e1 : b' + 3 + ((ptP s (b + 3)).2.1 - (b + 3)) = b' + ((ptP s (b + 3)).2.1 - b) := by omega
   have e2 : b' + ((ptP s (b + 3)).2.1 - b) + 1 = b' + ((ptP s (b + 3)).2.1 + 1 - b) := by omega
   rw [hA]
   dsimp only
   rw [e1, e2, hB]
   dsimp only
   rw [if_neg (by decide), ha.at (j := (ptP s (b + 3)).2.1) (by omega) (by omega) rfl, if_pos h45, if_neg (by rw [q3] at q2; simpa using q2)]
   rw [ha.at (j := (ptP s ((ptP s (b + 3)).2.1 + 1)).2.1) (by omega) (by omega) (by omega), if_pos hc]
   unfold mvT
   congr 3
   omega
  ·cases h
 ·next h45 =>
  split at h
  ·next hc =>
   cases h
   dsimp only at he
   have h4 := zau (s := s) (i := (ptP s (b + 3)).2.1) (by omega)
   have he : (ptP s (b + 3)).2.1 + 1 = b + m := by omega
   have hA := zhv (s' := s') (a' := b' + 3) (m := (ptP s (b + 3)).2.1 - (b + 3)) q1 (by omega) (ha.sub 3 (by omega))
   have e1 : b' + 3 + ((ptP s (b + 3)).2.1 - (b + 3)) = b' + ((ptP s (b + 3)).2.1 - b) := by omega
   rw [hA]
   dsimp only
   rw [e1, if_neg (by decide), ha.at (j := (ptP s (b + 3)).2.1) (by omega) (by omega) rfl, if_neg h45, if_pos hc]
   unfold mvT
   congr 3
   omega
  ·cases h
theorem sg_one {c0 c1 c1' : Int} (h : (sgC c0 c1).2.length = 1) (h2 : (sgC c0 c1).1 ≠ 13) (hc : c1' = c1 ∨ (c1' ≠ 58 /\ c1' ≠ 124 /\ c1' ≠ 126)) : sgC c0 c1' = sgC c0 c1 := by
 rcases hc with rfl | ⟨q1, q2, q3⟩
 ·rfl
 unfold sgC at h h2 ⊢
 by_cases h37 : c0 = 37
 ·subst h37
  by_cases a101 : c1 = 101 <;> by_cases a102 : c1 = 102 <;> simp_all
 by_cases h94 : c0 = 94
 ·subst h94
  by_cases a43 : c1 = 43 <;> by_cases a45 : c1 = 45 <;> simp_all
 by_cases h60 : c0 = 60
 ·subst h60
  by_cases a45 : c1 = 45 <;> simp_all
 by_cases h45 : c0 = 45
 ·subst h45
  by_cases a62 : c1 = 62 <;> simp_all
 by_cases h47 : c0 = 47
 ·subst h47
  simp
 by_cases h38 : c0 = 38
 ·subst h38
  simp
 by_cases h33 : c0 = 33
 ·subst h33
  simp
 by_cases h63 : c0 = 63
 ·subst h63
  simp
 by_cases h42 : c0 = 42
 ·subst h42
  simp
 by_cases h43 : c0 = 43
 ·subst h43
  simp
 by_cases h40 : c0 = 40
 ·subst h40
  simp
 by_cases h41 : c0 = 41
 ·subst h41
  simp
 by_cases h46 : c0 = 46
 ·subst h46
  simp
 by_cases h123 : c0 = 123
 ·subst h123
  by_cases a58 : c1 = 58 <;> by_cases a124 : c1 = 124 <;> by_cases a126 : c1 = 126 <;> simp_all
 by_cases h58 : c0 = 58
 ·subst h58
  by_cases a125 : c1 = 125 <;> simp_all
 by_cases h124 : c0 = 124
 ·subst h124
  by_cases a125 : c1 = 125 <;> simp_all
 by_cases h126 : c0 = 126
 ·subst h126
  by_cases a125 : c1 = 125 <;> simp_all
 by_cases h125 : c0 = 125
 ·subst h125
  simp
 simp [*]
theorem zpz (c0 c1 : Int) : (sgC c0 c1).1 = 0 ∨ (sgC c0 c1).2.length = 1 ∨ (sgC c0 c1).2.length = 2 := by
 have h : ∀ l : List (Int × List UInt8), (∀ p ∈ l, p.2.length = 1 ∨ p.2.length = 2) -> (zdh c0 c1 l).1 = 0 ∨ (zdh c0 c1 l).2.length = 1 ∨ (zdh c0 c1 l).2.length = 2 := by
  intro l
  induction l with
  | nil => intro _; exact .inl rfl
  | cons p l ih =>
   intro h
   rw [zdh]
   split
   ·exact .inr (h p (List.mem_cons_self ..))
   ·exact ih (fun q hq => h q (List.mem_cons_of_mem _ hq))
 rw [<- zid]
 exact h sgTab (by decide)
theorem sg21 {c0 c1 : Int} (h : (sgC c0 c1).1 = 21) : (sgC c0 c1).2.length = 2 := by
 have key : ∀ l : List (Int × List UInt8), (∀ p ∈ l, p.1 = 21 -> p.2.length = 2) -> (zdh c0 c1 l).1 = 21 -> (zdh c0 c1 l).2.length = 2 := by
  intro l
  induction l with
  | nil => intro _ q; cases q
  | cons p l ih =>
   intro h
   rw [zdh]
   split
   ·exact h p (List.mem_cons_self ..)
   ·exact ih (fun q hq => h q (List.mem_cons_of_mem _ hq))
 rw [<- zid] at h ⊢
 exact key sgTab (by decide) h
theorem zm0 {s s' : ByteArray} {b b' d d' m : Nat} {t : Tk} (_hd : d <= s.size) (h : zcv s b d = .inl t) (he : t.en = (d + m : Nat)) (ha : Ag s d s' d' m) (hf : Fol s (d + m) s' (d' + m)) : zcv s' b' d' = .inl { t with fr := b', en := (d' + m : Nat) } := by
 unfold zcv at h ⊢
 have hsp := za4 nmB s (by decide) d
 split at h
 ·next q1 =>
  split at h
  ·cases h
  next q2 =>
  split at h
  ·next q3 =>
   cases h
   dsimp only at he
   have hlt := zau (s := s) (i := spN nmB s d) (by omega)
   have hm : spN nmB s d + 1 = d + m := by omega
   have hm2 : spN nmB s d = d + (m - 1) := by omega
   have h58 : chr s' (d' + (m - 1)) = 58 := by rw [ha (m - 1) (by omega), <- hm2]; exact q3
   have h1 : spN nmB s' d' = d' + (m - 1) := zc8 (P := nmB) (by decide) (fun k hk => ha k (by omega)) hm2 (by rw [h58]; rfl)
   have hnx := (za3 (P := nmB) (s := s) (i := d) (by decide) (by unfold nmB; rw [q1]; rfl)).2
   have hnx2 := za4 nmB s (by decide) (d + 1)
   have h0 := ha 0 (by omega)
   rw [Nat.add_zero, Nat.add_zero] at h0
   have htx : s'.extract d' (d' + (m - 1)) = s.extract d (d + (m - 1)) := zeT (fun k hk => ha k (by omega)) (by omega) (by have := ha.in (by omega) (by omega); omega)
   rw [h0, if_pos q1, h1, show d' + (m - 1) - d' = spN nmB s d - d from by omega, if_neg q2, h58, if_pos rfl, htx, <- hm2, show d' + (m - 1) + 1 = d' + m from by omega]
  ·next q3 =>
   cases h
   dsimp only at he
   obtain rfl : m = 0 := by omega
   rw [Nat.add_zero, Nat.add_zero] at hf
   rcases hf with hf | ⟨e0, hr⟩
   ·rw [if_neg (by rw [(zpy (zb3 hf).1).2]; decide)]; rfl
   ·obtain ⟨r, r1, r2, r3⟩ := hr q1
    rw [e0, if_pos q1, r2, show d' + r - d' = spN nmB s d - d from by omega, if_neg q2, if_neg (fun q => q3 (by rw [r1]; exact r3 q))]
    rfl
 ·next q1 =>
  cases h
  dsimp only at he
  obtain rfl : m = 0 := by omega
  rw [Nat.add_zero, Nat.add_zero] at hf
  rcases hf with hf | ⟨e0, hr⟩
  ·rw [if_neg (by rw [(zpy (zb3 hf).1).2]; decide)]; rfl
  ·rw [e0, if_neg q1]; rfl
theorem zie {s s' : ByteArray} {b b' m : Nat} {t : Tk} (hb : b <= s.size) (h : zbr s b = .inl t) (he : t.en = (b + m : Nat)) (ha : Ag s b s' b' m) (hf : Fol s (b + m) s' (b' + m)) : zbr s' b' = .inl (mvT t b' m) /\ (zap s' b').1 = (zap s b).1 := by
 have hlen := zbL s b hb
 have hpos := zh4 s b
 have h12 := zpz (chr s b) (chr s (b + 1))
 rw [<- zbj] at h12
 have key : 2 <= m -> zap s' b' = zap s b := fun q => by
  have h0 := ha 0 (by omega)
  rw [Nat.add_zero, Nat.add_zero] at h0
  rw [zbj, zbj, h0, ha 1 (by omega)]
 unfold zbr at h
 split at h
 ·cases h
 next q0 =>
 split at h
 ·next q1 =>
  obtain ⟨e, a1, a2, a3⟩ := zh3 hlen h
  have hsp : spN dgB s (b + (zap s b).2.length) = b + m := by
   unfold nmR at h
   cases hn : zbx s (b + (zap s b).2.length) (gtK (zap s b).1) with
   | inr e => rw [hn] at h; cases h
   | inl n => rw [hn] at h; cases h; dsimp only at he; omega
  have hk := key (by omega)
  refine ⟨?_, by rw [hk]⟩
  unfold zbr
  rw [hk, if_neg q0, if_pos q1]
  have hst := (zbd dgB s (by decide) _ (b + (zap s b).2.length) rfl).2.2.1
  rw [hsp] at hst
  have := zhu (b' := b') (d' := b' + (zap s b).2.length) (m := m - (zap s b).2.length) h (by omega) (ha.sub _ (by omega)) (by
   rw [show b' + (zap s b).2.length + (m - (zap s b).2.length) = b' + m from by omega]; exact hf.dg hst)
  rw [this, show b' + (zap s b).2.length + (m - (zap s b).2.length) = b' + m from by omega]
  rfl
 next q1 =>
 split at h
 ·next q2 =>
  have hl2 : (zap s b).2.length = 2 := by rw [zbj] at q2 ⊢; exact sg21 q2
  obtain ⟨e, a1, a2, a3⟩ := zhn hlen h
  have hk := key (by omega)
  refine ⟨?_, by rw [hk]⟩
  unfold zbr
  rw [hk, if_neg q0, if_neg q1, if_pos q2]
  have := zm0 (b' := b') (d' := b' + (zap s b).2.length) (m := m - (zap s b).2.length) hlen h (by rw [he]; omega) (ha.sub _ (by omega)) (by
   rw [show b + (zap s b).2.length + (m - (zap s b).2.length) = b + m from by omega, show b' + (zap s b).2.length + (m - (zap s b).2.length) = b' + m from by omega]; exact hf)
  rw [this, show b' + (zap s b).2.length + (m - (zap s b).2.length) = b' + m from by omega]
  rfl
 ·next q2 =>
  cases h
  dsimp only at he
  have hm : m = (zap s b).2.length := by omega
  have hk : zap s' b' = zap s b := by
   rcases h12 with h12 | h12 | h12
   ·exact absurd h12 q0
   ·have hm1 : m = 1 := by omega
    subst hm1
    have h0 := ha 0 (by omega)
    rw [Nat.add_zero, Nat.add_zero] at h0
    rw [zbj, zbj, h0]
    refine sg_one (by rw [<- zbj]; exact h12) (by rw [<- zbj]; omega) ?_
    rcases hf with hf | ⟨e0, _⟩
    ·have := zb3 hf; exact .inr ⟨this.2.1, this.2.2.2.1, this.2.2.2.2⟩
    ·exact .inl e0
   ·exact key (by omega)
  refine ⟨?_, by rw [hk]⟩
  unfold zbr
  rw [hk, if_neg q0, if_neg q1, if_neg q2, <- hm]
  rfl
theorem zk9 {s s' : ByteArray} {b b' n : Nat} {x : BitVec 256} (h : zam s b = .inl (x, n)) (ha : Ag s b s' b' (n - b)) : zam s' b' = .inl (x, b' + (n - b)) := by
 have hgt := zgE h
 have hok := zgB h
 have hin := ha.in (by omega) (by omega)
 unfold zam at h ⊢
 rw [Int.toNat_natCast] at h ⊢
 split at h
 ·cases h
 split at h
 ·next q1 =>
  have h0 := ha 0 (by omega)
  rw [Nat.add_zero, Nat.add_zero] at h0
  rw [if_neg (by omega), h0, if_pos q1]
  split at h
  ·next q2 =>
   cases hm : zac s (s.size + 1) 0#256 (b + 2) with
   | inr p => obtain ⟨a, c⟩ := p; rw [hm] at h; cases h
   | inl p =>
    obtain ⟨y, k⟩ := p
    rw [hm] at h
    cases h
    have hb := zaU hm
    rw [ha 1 (by omega), if_pos q2]
    have := zea s s' _ (s'.size + 1) _ _ _ (b' + 2) (k + 1 - b - 2) _ hm (ha.sub 2 (by omega)) (by omega) (by omega)
    rw [this, zcN, show b' + 2 + (k - (b + 2)) + 1 = b' + (k + 1 - b) from by omega]
  ·next q2 =>
   cases hm : zac s (s.size + 1) 0#256 (b + 1) with
   | inr p => obtain ⟨a, c⟩ := p; rw [hm] at h; cases h
   | inl p =>
    obtain ⟨y, k⟩ := p
    rw [hm] at h
    cases h
    have hb := zaU hm
    rw [ha 1 (by omega), if_neg q2]
    have := zea s s' _ (s'.size + 1) _ _ _ (b' + 1) (k + 1 - b - 1) _ hm (ha.sub 1 (by omega)) (by omega) (by omega)
    rw [this, zeN, show b' + 1 + (k - (b + 1)) + 1 = b' + (k + 1 - b) from by omega]
 ·cases h
theorem zm1 {s s' : ByteArray} {b b' m : Nat} {t : Tk} (hb : b <= s.size) (h37 : chr s b = 37) (h : zcy s b = .inl t) (he : t.en = (b + m : Nat)) (ha : Ag s b s' b' m) (hf : Fol s (b + m) s' (b' + m)) : zcy s' b' = .inl (mvT t b' m) := by
 have hen := zkZ hb h
 obtain ⟨e, x1, x2, x3⟩ := hen
 have h0 := ha 0 (by omega)
 rw [Nat.add_zero, Nat.add_zero] at h0
 unfold zcy at h
 split at h
 ·next q1 =>
  have hl : b + 3 <= s.size := zf1 hb q1
  have hm := zkY hl h
  have := zmZ hl h he ha
  have hp : pfx s' b' [37, 117, 123] = true := by
   obtain ⟨e2, y1, y2, y3⟩ := hm
   have h3 : 3 <= m := by
    have hmm := this
    unfold zb2 at h
    split at h
    ·cases h
    have hpt := zbQ hl
    split at h
    ·next h45 =>
     have h2 := zau (s := s) (i := (ptP s (b + 3)).2.1) (by omega)
     have h3 := zbQ (s := s) (a := (ptP s (b + 3)).2.1 + 1) (by omega)
     split at h
     ·cases h
     split at h
     ·cases h; dsimp only at he; omega
     ·cases h
    ·split at h
     ·cases h; dsimp only at he; omega
     ·cases h
   have e0 : pfx s' b' [37, 117, 123] = pfx s b [37, 117, 123] := by
    show (chr s' b' == 37 && (chr s' (b' + 1) == 117 && (chr s' (b' + 1 + 1) == 123 && true))) = (chr s b == 37 && (chr s (b + 1) == 117 && (chr s (b + 1 + 1) == 123 && true)))
    rw [h0, ha 1 (by omega), show b' + 1 + 1 = b' + 2 from rfl, ha 2 (by omega)]
   rw [e0]; exact q1
  unfold zcy
  rw [if_pos hp]
  exact this
 next q1 =>
 have hq : ∀ m2, m2 = m -> 2 <= m2 -> (m2 = 2 ∨ chr s (b + 1) ≠ 117) -> pfx s' b' [37, 117, 123] = false := fun m2 em h2 hor => by
  subst em
  have q1 : pfx s b [37, 117, 123] = false := by cases hh : pfx s b [37, 117, 123]; rfl; exact absurd hh q1
  show (chr s' b' == 37 && (chr s' (b' + 1) == 117 && (chr s' (b' + 1 + 1) == 123 && true))) = false
  have q1 : (chr s b == 37 && (chr s (b + 1) == 117 && (chr s (b + 1 + 1) == 123 && true))) = false := q1
  rw [h0, h37, ha 1 (by omega)]
  rw [h37] at q1
  by_cases u : chr s (b + 1) = 117
  ·rw [u] at q1 ⊢
   have c1 : ¬ chr s (b + 2) = 123 := by simpa using q1
   have c2 : ¬ chr s' (b' + 2) = 123 := by
    rcases hor with hor | hor
    ·subst hor
     rcases hf with hf | ⟨e0, _⟩
     ·exact (zb3 hf).2.2.1
     ·rw [e0]; exact c1
    ·exact absurd u hor
   simpa using c2
  ·rw [bF u]; simp
 split at h
 ·next q2 =>
  have hs2 := zie hb h he ha hf
  have h2 : (zap s b).2.length = 2 /\ chr s (b + 1) ≠ 117 := by
   rw [zbj, h37] at q2 ⊢
   unfold sgC at q2 ⊢
   rw [if_pos rfl] at q2 ⊢
   by_cases u1 : chr s (b + 1) = 101
   ·rw [if_pos u1]; exact ⟨rfl, by omega⟩
   ·rw [if_neg u1] at q2 ⊢
    by_cases u2 : chr s (b + 1) = 102
    ·rw [if_pos u2]; exact ⟨rfl, by omega⟩
    ·rw [if_neg u2] at q2; exact absurd rfl q2
  have hm2 : 2 <= m := by
   have hl := zbL s b hb
   have hsg := zho hb h
   unfold zbr at h
   split at h
   ·cases h
   split at h
   ·obtain ⟨e, a1, a2, a3⟩ := zh3 hl h; omega
   split at h
   ·obtain ⟨e, a1, a2, a3⟩ := zhn hl h; omega
   ·cases h; dsimp only at he; omega
  unfold zcy
  rw [if_neg (by rw [hq m rfl hm2 (.inr h2.2)]; decide), if_pos (by rw [hs2.2]; exact q2)]
  exact hs2.1
 next q2 =>
 split at h
 ·next q3 =>
  cases h
  dsimp only at he
  have hm2 : m = 2 := by omega
  subst hm2
  have hin := ha.in (by omega) (by omega)
  have e1 := ha 1 (by omega)
  have hsg : zap s' b' = zap s b := by rw [zbj, zbj, h0, e1]
  have htx : s'.extract (b' + 1) (b' + 2) = s.extract (b + 1) (b + 2) := zeT (m := 1) (ha.sub 1 (by omega)) (by omega) (by omega)
  unfold zcy
  rw [if_neg (by rw [hq 2 rfl (by omega) (.inl rfl)]; decide), hsg, if_neg q2, e1, if_pos ⟨by omega, q3.2⟩, htx]
  rfl
 ·cases h
theorem zm2 {s s' : ByteArray} {b b' m : Nat} {t : Tk} (hb : b < s.size) (h : zaE s b = .inl t) (he : t.en = (b + m : Nat)) (ha : Ag s b s' b' m) (hf : Fol s (b + m) s' (b' + m)) : zaE s' b' = .inl (mvT t b' m) := by
 obtain ⟨e, x1, x2, x3⟩ := zeR s b t hb h
 have h1 : 1 <= m := by omega
 have hin := ha.in h1 (by omega)
 have h0 := ha 0 (by omega)
 rw [Nat.add_zero, Nat.add_zero] at h0
 unfold zaE at h ⊢
 rw [h0]
 split at h
 ·next q =>
  rw [if_pos q]
  have hm : spN nmB s b = b + m := by
   unfold zca at h
   split at h
   ·cases h
   ·cases h; dsimp only at he; omega
  have hst := (zbd nmB s (by decide) _ b rfl).2.2.1
  rw [hm] at hst
  exact zk8 h hm h1 (by omega) ha (hf.nm hst)
 next q0 =>
 rw [if_neg q0]
 split at h
 ·next q =>
  rw [if_pos q]
  have hm : spN dgB s b = b + m := by
   unfold nmR at h
   cases hn : zbx s b (gtK 4) with
   | inr e => rw [hn] at h; cases h
   | inl n => rw [hn] at h; cases h; dsimp only at he; omega
  have hst := (zbd dgB s (by decide) _ b rfl).2.2.1
  rw [hm] at hst
  exact zhu h hm ha (hf.dg hst)
 next q1 =>
 rw [if_neg q1]
 split at h
 ·next q =>
  rw [if_pos q]
  unfold zbZ at h ⊢
  rw [h0]
  have hge := zdF s _ b (by omega) _ _ _ _ h
  obtain ⟨e2, y1, y2, y3⟩ := hge
  have := zmX s s' (chr s b) b b' (by omega) _ (s'.size + 1) [] (b + 1) (b' + 1) (m - 1) t (b + m) h he (by omega) (ha.sub 1 (by omega)) (by omega)
  rw [this, show b' + 1 + (m - 1) = b' + m from by omega]
  rfl
 next q2 =>
 rw [if_neg q2]
 split at h
 ·next q =>
  rw [if_pos q]
  cases hr : zam s b with
  | inr p =>
   rw [hr, clT] at h
   split at h <;> cases h
  | inl p =>
   obtain ⟨x, n⟩ := p
   rw [hr] at h
   cases h
   dsimp only at he
   have hn : n - b = m := by omega
   rw [zk9 hr (by rw [hn]; exact ha), hn]
   rfl
 next q3 =>
 rw [if_neg q3]
 split at h
 ·next q => rw [if_pos q]; exact zm1 (by omega) q h he ha hf
 ·next q => rw [if_neg q]; exact (zie (by omega) h he ha hf).1
def Chn (s : ByteArray) (i : Nat) : List Tk -> Prop
 | [] => zbm s i = s.size
 | t :: l => zbm s i < s.size /\ zaE s (zbm s i) = .inl t /\ ∃ e : Nat, t.en = e /\ zbm s i < e /\ e <= s.size /\ Chn s e l
theorem chn_of (s : ByteArray) : ∀ (f : Nat) (out : List Tk) (i : Nat) (l : List Tk), i <= s.size -> s.size < f + zbm s i -> zbB (zaE s) s f out (zbm s i) = .inl l -> ∃ l2, l = out ++ l2 /\ Chn s i l2 := by
 intro f
 induction f with
 | zero => intro out i l hi hf h; have := (zcf hi).2; omega
 | succ f ih =>
  intro out i l hi hf h
  have hb := zcf hi
  rw [zbB] at h
  by_cases hlt : zbm s i < s.size
  ·rw [if_pos hlt] at h
   cases ho : zaE s (zbm s i) with
   | inr q => rw [ho] at h; cases h
   | inl t =>
    rw [ho] at h
    dsimp only at h
    obtain ⟨e, e1, e2, e3⟩ := zeR s _ t hlt ho
    rw [e1, Int.toNat_natCast] at h
    have hge := zga s e e3
    obtain ⟨l2, h2, h3⟩ := ih (out ++ [t]) e l e3 (by omega) h
    refine ⟨t :: l2, by rw [h2, List.append_assoc]; rfl, hlt, ho, e, e1, e2, e3, h3⟩
  ·rw [if_neg hlt] at h
   cases h
   exact ⟨[], by rw [List.append_nil], by show zbm s i = s.size; omega⟩
theorem zpA (s : ByteArray) : ∀ (l : List Tk) (f : Nat) (out : List Tk) (i : Nat), i <= s.size -> s.size < f + zbm s i -> Chn s i l -> zbB (zaE s) s f out (zbm s i) = .inl (out ++ l) := by
 intro l
 induction l with
 | nil =>
  intro f out i hi hf h
  have h : zbm s i = s.size := h
  cases f with
  | zero => omega
  | succ f => rw [zbB, if_neg (by omega), List.append_nil]
 | cons t l ih =>
  intro f out i hi hf h
  obtain ⟨h1, h2, e, e1, e2, e3, h3⟩ := h
  cases f with
  | zero => omega
  | succ f =>
   have hge := zga s e e3
   rw [zbB, if_pos h1, h2]
   dsimp only
   rw [e1, Int.toNat_natCast, ih f (out ++ [t]) e e3 (by omega) h3, List.append_assoc]
   rfl
theorem zla {s : ByteArray} {l : List Tk} (h : zbn (zaE s) s = .inl l) : s.size <= 65536 /\ Chn s 0 l := by
 unfold zbn at h
 split at h
 ·cases h
 ·next q =>
  obtain ⟨l2, h2, h3⟩ := chn_of s _ _ 0 l (by omega) (by have := (zcf (s := s) (i := 0) (by omega)).1; omega) h
  rw [h2]
  exact ⟨by omega, h3⟩
theorem zi2 {s : ByteArray} {l : List Tk} (hs : s.size <= 65536) (h : Chn s 0 l) : zbn (zaE s) s = .inl l := by
 unfold zbn
 rw [if_neg (by omega), zpA s l _ [] 0 (by omega) (by have := (zcf (s := s) (i := 0) (by omega)).1; omega) h]
 rfl
theorem zlb {s : ByteArray} {b m : Nat} {t : Tk} (h45 : chr s b = 45) (h : zaE s b = .inl t) (he : t.en = (b + m : Nat)) : m = 2 := by
 unfold zaE at h
 rw [h45, if_neg (by decide), if_neg (by decide), if_neg (by decide), if_neg (by decide), if_neg (by decide)] at h
 unfold zbr at h
 rw [zbj, h45] at h
 have e : sgC 45 (chr s (b + 1)) = if chr s (b + 1) = 62 then (27, [45, 62]) else (0, []) := by
  unfold sgC
  rw [if_neg (by decide), if_neg (by decide), if_neg (by decide), if_pos rfl]
 rw [e] at h
 by_cases q : chr s (b + 1) = 62
 ·rw [if_pos q] at h
  simp at h
  cases h
  dsimp only at he
  omega
 ·rw [if_neg q] at h
  simp at h
theorem zi3 {s s' : ByteArray} {b b' m : Nat} {t : Tk} (hb : b < s.size) (hnb : ¬ (chr s b = 9 ∨ chr s b = 10 ∨ chr s b = 13 ∨ chr s b = 32)) (hnn : ¬ (chr s b = 45 /\ chr s (b + 1) = 45)) (h : zaE s b = .inl t) (he : t.en = (b + m : Nat)) (ha : Ag s b s' b' m) : zbm s' b' = b' /\ b' < s'.size := by
 obtain ⟨e, x1, x2, x3⟩ := zeR s b t hb h
 have hin := ha.in (by omega) (by omega)
 have h0 := ha 0 (by omega)
 rw [Nat.add_zero, Nat.add_zero] at h0
 refine ⟨?_, by omega⟩
 rw [zcd, if_pos (by omega), if_neg (fun q => ?_), if_neg (by rw [h0]; exact hnb)]
 have h45 : chr s b = 45 := by rw [<- h0]; exact q.1
 have hm := zlb h45 h he
 exact hnn ⟨h45, by rw [<- ha 1 (by omega)]; exact q.2⟩
def tkQ (t u : Tk) : Bool := t.kd == u.kd && (t.nn == u.nn && (t.fr == u.fr && (t.en == u.en && ((t.tx.toList == u.tx.toList) && (t.s0 == u.s0 && (t.s1 == u.s1 && (t.s2 == u.s2 && t.s3 == u.s3)))))))
theorem eqSetN (a b c d a' b' c' d' : Int) (w : World) : (Op.equalIn 9999 49 (.agg #[.int .u64 a, .int .u64 b, .int .u64 c, .int .u64 d]) (.agg #[.int .u64 a', .int .u64 b', .int .u64 c', .int .u64 d'])).run Tryz.prog w = .ok (a == a' && (b == b' && (c == c' && d == d'))) w := by
 have u3 := Tryz.underlying47
 have a3 := Tryz.isAgg47
 have z3 := Tryz.sizeOf47
 rw [show (9999 : Nat) = 9998 + 1 from rfl, Op.equalIn]
 simp only [Sem.run_bind, run_underlying Tryz.underlying49, Result.andThen_ok]
 simp only [Std.Legacy.Range.forIn_eq_forIn_range', Std.Legacy.Range.size, Nat.sub_zero, Nat.add_sub_cancel, Nat.div_one, List.range'_succ, List.range'_zero, List.forIn_cons, List.forIn_nil]
 go_simp
 by_cases h1 : a = a' <;> by_cases h2 : b = b' <;> by_cases h3 : c = c' <;> by_cases h4 : d = d' <;> simp [h1, h2, h3, h4]
theorem zi4 (kd nn fr en : Int) (tx : ByteArray) (s0 s1 s2 s3 : Int) (kd' nn' fr' en' : Int) (tx' : ByteArray) (s0' s1' s2' s3' : Int) (w : World) : (Op.equalIn 10000 79 (.agg #[.int .i64 kd, .int .i64 nn, .int .i64 fr, .int .i64 en, .string tx, .int .u64 s0, .int .u64 s1, .int .u64 s2, .int .u64 s3]) (.agg #[.int .i64 kd', .int .i64 nn', .int .i64 fr', .int .i64 en', .string tx', .int .u64 s0', .int .u64 s1', .int .u64 s2', .int .u64 s3'])).run Tryz.prog w = .ok (tkQ ⟨kd, nn, fr, en, tx, s0, s1, s2, s3⟩ ⟨kd', nn', fr', en', tx', s0', s1', s2', s3'⟩) w := by
 have hS : Tryz.prog.underlying 79 = some (.struct (Tryz.prog.fieldsOf 79)) := by kernel_rfl
 have hp : Tryz.prog.stoodInHeld 79 = false := by kernel_rfl
 have e1 := eqSetN s0 s1 s2 s3 s0' s1' s2' s3'
 rw [show (10000 : Nat) = 9999 + 1 from rfl, run_equalIn_agg w 9999 79 _ _ hS hp]
 simp only [Program.fieldsOf, Tryz.underlying79]
 unfold tkQ
 simp [go_sem, Tryz.underlying3, Tryz.underlying9, Tryz.isAgg49, Tryz.isAgg3, Tryz.isAgg9, Tryz.sizeOf49, Tryz.sizeOf3, Tryz.sizeOf9, e1]
 by_cases h : kd = kd'
 case neg => simp [h]
 simp only [h, if_true, beq_self_eq_true, Bool.true_and]
 clear h
 by_cases h : nn = nn'
 case neg => simp [h]
 simp only [h, if_true, beq_self_eq_true, Bool.true_and]
 clear h
 by_cases h : fr = fr'
 case neg => simp [h]
 simp only [h, if_true, beq_self_eq_true, Bool.true_and]
 clear h
 by_cases h : en = en'
 case neg => simp [h]
 simp only [h, if_true, beq_self_eq_true, Bool.true_and]
 clear h
 by_cases h : tx.toList = tx'.toList
 case neg => simp [h]
 simp only [h, if_true, beq_self_eq_true, Bool.true_and]
 clear h
 by_cases h : s0 = s0'
 case neg => simp [h]
 simp only [h, beq_self_eq_true, Bool.true_and]
 clear h
 by_cases h : s1 = s1'
 case neg => simp [h]
 simp only [h, beq_self_eq_true, Bool.true_and]
 clear h
 by_cases h : s2 = s2'
 case neg => simp [h]
 simp only [h, beq_self_eq_true, Bool.true_and]
 clear h
 by_cases h : s3 = s3'
 case neg => simp [h]
 simp only [h, beq_self_eq_true]
 clear h
 simp
def zeb (s : ByteArray) : Bool := decide (0 < s.size) && decide (s.size <= 32) && hdB (chr s 0) && spN nmB s 0 == s.size
theorem zif {s : ByteArray} (h : 0 < s.size) : (s.toList == []) = false := by
 rw [beq_eq_false_iff_ne, ByteArray.toList_eq]
 intro e
 have h2 : s.data.toList.length = 0 := by rw [e]; rfl
 have h3 : s.data.toList.length = s.size := rfl
 omega
theorem zlc {s : ByteArray} (h : ¬ 0 < s.size) : s = ⟨#[]⟩ := by
 apply ByteArray.ext
 apply Array.eq_empty_of_size_eq_zero
 have : s.data.size = s.size := rfl
 omega
theorem zig (s : ByteArray) (w : World) : Calls Tryz.prog 93 #[.string s] w fun e w' => e = .returned (.bool (zeb s)) /\ w' = w := by
 by_cases h0 : 0 < s.size
 ·have e0 := zif h0
  have hc := zal h0
  by_cases h1 : s.size <= 32
  ·have v1 : (s.size : Int) <= 32 := by omega
   have v1' : ¬ (32 : Int) < (s.size : Int) := by omega
   have z0 : (0 : Int) < (s.size : Int) := by omega
   have hw : IntKind.i64.wrap ((s[0].toNat : Nat) : Int) = ((s[0].toNat : Nat) : Int) := by have := s[0].toNat_lt; rw [IntKind.wrap_i64]; omega
   have HB : Hid (∀ w, Calls Tryz.prog 56 #[.int .i64 (s[0].toNat : Int)] w fun e w' => e = .returned (.bool (hdB (chr s 0))) /\ w' = w) := fun w => by rw [hc]; exact zem _ w
   have HR : Hid (∀ w, Calls Tryz.prog 57 #[.string s, .int .i64 0] w fun e w' => e = .returned (.int .i64 (spN nmB s 0)) /\ w' = w) := fun w => zgX s 0 (by omega) (by omega) w
   cases hh : hdB (chr s 0)
   ·have HE : Hid (zeb s = false) := by show _ = _; unfold zeb; rw [hh]; simp
    rw [hh] at HB
    clear hc hh h1 v1 HR
    go_enter Tryz.func93, Tryz.ntmps93
    go_wp2_with fail
    refine (HB.out _).mono ?_
    rintro e w1 ⟨rfl, rfl⟩
    go_wp2_with fail
    go_ret
    exact ⟨by rw [HE.out]; rfl, rfl⟩
   ·have HE : Hid (zeb s = ((spN nmB s 0 : Int) == (s.size : Int))) := by
     show _ = _
     unfold zeb
     rw [hh, decide_eq_true h0, decide_eq_true h1]
     by_cases q : spN nmB s 0 = s.size
     ·rw [q, beq_self_eq_true, beq_self_eq_true]; rfl
     ·rw [bF q, bF (show ¬ ((spN nmB s 0 : Nat) : Int) = (s.size : Int) by omega)]; rfl
    rw [hh] at HB
    clear hc hh h1 v1
    generalize spN nmB s 0 = N at *
    go_enter Tryz.func93, Tryz.ntmps93
    go_wp2_with fail
    refine (HB.out _).mono ?_
    rintro e w1 ⟨rfl, rfl⟩
    go_wp2_with fail
    refine (HR.out _).mono ?_
    rintro e w2 ⟨rfl, rfl⟩
    go_wp2_with fail
    go_ret
    exact ⟨by rw [HE.out]; rfl, rfl⟩
  ·have v1 : ¬ (s.size : Int) <= 32 := by omega
   have v1' : (32 : Int) < (s.size : Int) := by omega
   have HE : Hid (zeb s = false) := by show _ = _; unfold zeb; rw [decide_eq_false h1]; simp
   clear hc h1 h0 v1
   go_enter Tryz.func93, Tryz.ntmps93
   go_wp2_with fail
   go_ret
   exact ⟨by rw [HE.out]; rfl, rfl⟩
 ·obtain rfl := zlc h0
  clear h0
  go_enter Tryz.func93, Tryz.ntmps93
  go_wp2_with fail
  go_ret
  exact ⟨rfl, rfl⟩
def zS : Array Value := Array.replicate 31 (.string ⟨#[]⟩)
theorem zpB (w : World) : (Instr.build 134 #[]).run Tryz.prog w = .ok (.agg zS) w := by kernel_rfl
theorem zpC (w : World) : (Instr.alloc 134 true (.tuple #[])).run Tryz.prog w = .ok (.pointer (some ⟨w.heap.size, 0, none⟩)) (w.alloc (.cells zS 134)) := by kernel_rfl
theorem zpD (w : World) : (Instr.storeAt 134 (.pointer (some ⟨w.heap.size, 0, none⟩)) (.agg zS)).run Tryz.prog (w.alloc (.cells zS 134)) = .ok () (w.alloc (.cells zS 134)) := run_storeAt_new w 134 zS zS (by kernel_rfl) rfl (by kernel_rfl)
theorem zch {ops : Array Oper} {rest : List Oper} {op : Oper} {a : Act} {w : World} {Q : Exit -> Act -> World -> Prop} (hgd : op.guard = none) (ho : op.op = .build 134 #[])
  (h : wpList Tryz.prog ops Q rest (a.put op.dst (.agg zS)) w) : wpList Tryz.prog ops Q (op :: rest) a w :=
 wpList_plain hgd fun K hK => by
  unfold Oper.wp execOp
  simp only [ho, List.map_toArray, List.map_nil, Sem.run_bind, zpB, Result.andThen_ok]
  exact hK _ _ h
theorem zci {ops : Array Oper} {rest : List Oper} {op : Oper} {a : Act} {w : World} {Q : Exit -> Act -> World -> Prop} (hgd : op.guard = none) (ho : op.op = .alloc 134)
  (h : wpList Tryz.prog ops Q rest (a.put op.dst (.pointer (some ⟨w.heap.size, 0, none⟩))) (w.alloc (.cells zS 134))) : wpList Tryz.prog ops Q (op :: rest) a w :=
 wpList_plain hgd fun K hK => by
  unfold Oper.wp execOp
  simp only [ho, Sem.run_bind, zpC, Result.andThen_ok]
  exact hK _ _ h
theorem zcj {ops : Array Oper} {rest : List Oper} {op : Oper} {a : Act} {w : World} {Q : Exit -> Act -> World -> Prop} (hgd : op.guard = none) (x y : Operand) (ho : op.op = .store 134 x y)
  (hx : a.eval x = .pointer (some ⟨w.heap.size, 0, none⟩)) (hy : a.eval y = .agg zS)
  (h : wpList Tryz.prog ops Q rest (a.put op.dst undef) (w.alloc (.cells zS 134))) : wpList Tryz.prog ops Q (op :: rest) a (w.alloc (.cells zS 134)) :=
 wpList_plain hgd fun K hK => by
  unfold Oper.wp execOp
  simp only [ho, hx, hy, Sem.run_bind, zpD, Result.andThen_ok]
  exact hK _ _ h
structure ZX (W : World) (b : Nat) (c : Array Value) : Prop where
 heap : W.heap[b]? = some (.cells c 134 (0, 0))
theorem ZX.put {W : World} {b : Nat} {c : Array Value} (h : ZX W b c) (j : Nat) (v : Value) : ZX (W.setCell ⟨b, j, none⟩ v) b (c.setIfInBounds j v) := ⟨by
 rw [heap_setCell_same _ b j _ 134 v h.heap]⟩
theorem ZX.cell {W : World} {b : Nat} {c : Array Value} (h : ZX W b c) (j : Nat) : W.cell? ⟨b, j, none⟩ = c[j]? := cell_of_row W b j _ 134 (0, 0) h.heap
theorem ZX.fz {W : World} {b : Nat} {c : Array Value} (h : ZX W b c) (j : Nat) : W.frozen? ⟨b, j, none⟩ = false := frozen_of_row W b j _ 134 h.heap
def finS : Array Value := ((((((((((((((((((zS.setIfInBounds 6 (.string ⟨#[60, 45]⟩)).setIfInBounds 27 (.string ⟨#[45, 62]⟩)).setIfInBounds 7 (.string ⟨#[47]⟩)).setIfInBounds 8 (.string ⟨#[38]⟩)).setIfInBounds 9 (.string ⟨#[33]⟩)).setIfInBounds 10 (.string ⟨#[63]⟩)).setIfInBounds 11 (.string ⟨#[42]⟩)).setIfInBounds 12 (.string ⟨#[43]⟩)).setIfInBounds 16 (.string ⟨#[40]⟩)).setIfInBounds 17 (.string ⟨#[41]⟩)).setIfInBounds 18 (.string ⟨#[46]⟩)).setIfInBounds 22 (.string ⟨#[58, 125]⟩)).setIfInBounds 23 (.string ⟨#[123, 124]⟩)).setIfInBounds 24 (.string ⟨#[124, 125]⟩)).setIfInBounds 25 (.string ⟨#[123, 126]⟩)).setIfInBounds 26 (.string ⟨#[126, 125]⟩)).setIfInBounds 19 (.string ⟨#[123]⟩)).setIfInBounds 20 (.string ⟨#[125]⟩))
theorem zm3 (k : Nat) (hk : k <= 30) : finS[k]? = some (.string ⟨(sgn k).toArray⟩) := by
 match k, hk with
 | 0, _ => rfl
 | 1, _ => rfl
 | 2, _ => rfl
 | 3, _ => rfl
 | 4, _ => rfl
 | 5, _ => rfl
 | 6, _ => rfl
 | 7, _ => rfl
 | 8, _ => rfl
 | 9, _ => rfl
 | 10, _ => rfl
 | 11, _ => rfl
 | 12, _ => rfl
 | 13, _ => rfl
 | 14, _ => rfl
 | 15, _ => rfl
 | 16, _ => rfl
 | 17, _ => rfl
 | 18, _ => rfl
 | 19, _ => rfl
 | 20, _ => rfl
 | 21, _ => rfl
 | 22, _ => rfl
 | 23, _ => rfl
 | 24, _ => rfl
 | 25, _ => rfl
 | 26, _ => rfl
 | 27, _ => rfl
 | 28, _ => rfl
 | 29, _ => rfl
 | 30, _ => rfl
 | n + 31, h => omega
theorem store9 {W : World} {b j : Nat} {c : Array Value} {u : Value} (h : ZX W b c) (hj : c[j]? = some u) (s : ByteArray) : (Instr.storeAt 9 (.pointer (some ⟨b, j, none⟩)) (.string s)).run Tryz.prog W = .ok () (W.setCell ⟨b, j, none⟩ (.string s)) := by
 have h1 := (h.cell j).trans hj
 have h2 := h.fz j
 simp [Instr.storeAt, Instr.sureAddr, storeVar, go_sem, h1, h2]
theorem zcZ {ops : Array Oper} {rest : List Oper} {op : Oper} {a : Act} {w W : World} {Q : Exit -> Act -> World -> Prop} {b j : Nat} {c : Array Value} {u : Value} {s : ByteArray} (hgd : op.guard = none) (x y : Operand) (ho : op.op = .store 9 x y)
  (hx : a.eval x = .pointer (some ⟨b, j, none⟩)) (hy : a.eval y = .string s) (hz : ZX W b c /\ Below w.heap.size w W) (hb : w.heap.size <= b) (hj : c[j]? = some u)
  (h : ∀ W', (ZX W' b (c.setIfInBounds j (.string s)) /\ Below w.heap.size w W') -> wpList Tryz.prog ops Q rest (a.put op.dst undef) W') : wpList Tryz.prog ops Q (op :: rest) a W :=
 wpList_plain hgd fun K hK => by
  unfold Oper.wp execOp
  simp only [ho, hx, hy, Sem.run_bind, store9 hz.1 hj, Result.andThen_ok]
  exact hK _ _ (h _ ⟨hz.1.put j _, hz.2.setCell (p := ⟨b, j, none⟩) hb _⟩)
theorem zhw (k : Nat) (h1 : 1 <= k) (h2 : k <= 30) (w : World) : Calls Tryz.prog 72 #[.int .i64 k] w fun e w' => e = .returned (.string ⟨(sgn k).toArray⟩) /\ Below w.heap.size w w' := by
 have HZ : Hid (ZX (w.alloc (.cells zS 134)) w.heap.size zS /\ Below w.heap.size w (w.alloc (.cells zS 134))) := ⟨⟨heap_alloc_new w _⟩, zaa w _⟩
 have HC : Hid (∀ W, ZX W w.heap.size finS -> W.cell? ⟨w.heap.size, k, none⟩ = some (.string ⟨(sgn k).toArray⟩)) := fun W h => by rw [h.cell]; exact zm3 k h2
 have t1 : ¬ (k : Int) < 1 := by omega
 have t2 : ¬ (30 : Int) < (k : Int) := by omega
 have z0 : (0 : Int) <= (k : Int) := by omega
 have z1 : (k : Int) < 31 := by omega
 generalize ByteArray.mk (sgn k).toArray = tx at *
 go_enter Tryz.func72, Tryz.ntmps72
 go_wp2_with (first | refine zch rfl rfl ?_ | refine zci rfl rfl ?_ | (refine zcj rfl _ _ rfl rfl rfl ?_; generalize w.alloc (.cells zS 134) = W1 at *) | (refine zcZ rfl _ _ rfl rfl rfl HZ.out (Nat.le_refl _) rfl ?_; clear HZ; intro W1 hz; have HZ := (show Hid _ from hz); clear hz; try (have hC := HC.out _ HZ.out.1; clear HC)))
 go_ret
 exact ⟨rfl, HZ.out.2⟩
theorem zm4 (k : Int) (h : k < 1 ∨ 30 < k) (w : World) : Calls Tryz.prog 72 #[.int .i64 k] w fun e w' => e = .returned (.string ⟨#[]⟩) /\ Below w.heap.size w w' := by
 have HZ : Hid (ZX (w.alloc (.cells zS 134)) w.heap.size zS /\ Below w.heap.size w (w.alloc (.cells zS 134))) := ⟨⟨heap_alloc_new w _⟩, zaa w _⟩
 rcases h with h | h
 ·go_enter Tryz.func72, Tryz.ntmps72
  go_wp2_with (first | refine zch rfl rfl ?_ | refine zci rfl rfl ?_ | (refine zcj rfl _ _ rfl rfl rfl ?_; generalize w.alloc (.cells zS 134) = W1 at *) | (refine zcZ rfl _ _ rfl rfl rfl HZ.out (Nat.le_refl _) rfl ?_; clear HZ; intro W1 hz; have HZ := (show Hid _ from hz); clear hz))
  go_ret
  exact ⟨rfl, HZ.out.2⟩
 ·have t1 : ¬ k < 1 := by omega
  go_enter Tryz.func72, Tryz.ntmps72
  go_wp2_with (first | refine zch rfl rfl ?_ | refine zci rfl rfl ?_ | (refine zcj rfl _ _ rfl rfl rfl ?_; generalize w.alloc (.cells zS 134) = W1 at *) | (refine zcZ rfl _ _ rfl rfl rfl HZ.out (Nat.le_refl _) rfl ?_; clear HZ; intro W1 hz; have HZ := (show Hid _ from hz); clear hz))
  go_ret
  exact ⟨rfl, HZ.out.2⟩
theorem sgn_ne (k : Nat) (h1 : 1 <= k) (h2 : k <= 30) (h : k ≠ 1 /\ k ≠ 21 /\ k ≠ 2 /\ k ≠ 3 /\ k ≠ 28 /\ k ≠ 5 /\ k ≠ 4 /\ k ≠ 13 /\ k ≠ 14 /\ k ≠ 15 /\ k ≠ 29 /\ k ≠ 30) : ((⟨(sgn k).toArray⟩ : ByteArray).toList == []) = false := by
 have key : ∀ k, k < 31 -> (1 <= k /\ k ≠ 1 /\ k ≠ 21 /\ k ≠ 2 /\ k ≠ 3 /\ k ≠ 28 /\ k ≠ 5 /\ k ≠ 4 /\ k ≠ 13 /\ k ≠ 14 /\ k ≠ 15 /\ k ≠ 29 /\ k ≠ 30) -> (sgn k == []) = false := by decide
 rw [ByteArray.toList_eq]
 exact key k (by omega) ⟨h1, h⟩
theorem zai (w : World) (a b : Obj) : Below w.heap.size w ((w.alloc a).alloc b) := (zaa w a).alloc (by simp) b
theorem rg_1 (kd nn fr en s0 s1 s2 s3 : Int) (tx : ByteArray) (h : kd = 1) (w : World) : Calls Tryz.prog 68 #[.agg #[.int .i64 kd, .int .i64 nn, .int .i64 fr, .int .i64 en, .string tx, .int .u64 s0, .int .u64 s1, .int .u64 s2, .int .u64 s3]] w fun e w' => e = .returned (.bool (tkQ ⟨kd, nn, fr, en, tx, s0, s1, s2, s3⟩ ⟨kd, 0, fr, en, tx, 0, 0, 0, 0⟩ && zeb tx)) /\ Below w.heap.size w w' := by
 have f1 : (kd == 1) = true := by rw [h]; rfl
 have HN : Hid (∀ w, Calls Tryz.prog 93 #[.string tx] w fun e w' => e = .returned (.bool (zeb tx)) /\ w' = w) := fun w => zig tx w
 have e1 := zi4 kd nn fr en tx s0 s1 s2 s3 kd 0 fr en tx 0 0 0 0
 clear h
 cases hq : tkQ ⟨kd, nn, fr, en, tx, s0, s1, s2, s3⟩ ⟨kd, 0, fr, en, tx, 0, 0, 0, 0⟩
 ·rw [hq] at e1
  clear hq HN
  go_enter Tryz.func68, Tryz.ntmps68
  go_wp2_with fail
  go_ret
  exact ⟨by simp, zai _ _ _⟩
 ·rw [hq] at e1
  clear hq
  go_enter Tryz.func68, Tryz.ntmps68
  go_wp2_with fail
  refine (HN.out _).mono ?_
  rintro e w1 ⟨rfl, rfl⟩
  go_wp2_with fail
  go_ret
  exact ⟨by simp, zai _ _ _⟩
theorem rg_21 (kd nn fr en s0 s1 s2 s3 : Int) (tx : ByteArray) (h : kd = 21) (w : World) : Calls Tryz.prog 68 #[.agg #[.int .i64 kd, .int .i64 nn, .int .i64 fr, .int .i64 en, .string tx, .int .u64 s0, .int .u64 s1, .int .u64 s2, .int .u64 s3]] w fun e w' => e = .returned (.bool (tkQ ⟨kd, nn, fr, en, tx, s0, s1, s2, s3⟩ ⟨kd, 0, fr, en, tx, 0, 0, 0, 0⟩ && ((tx.toList == []) || zeb tx))) /\ Below w.heap.size w w' := by
 have f1 : (kd == 1) = false := bF (by omega)
 have f21 : (kd == 21) = true := by rw [h]; rfl
 have HN : Hid (∀ w, Calls Tryz.prog 93 #[.string tx] w fun e w' => e = .returned (.bool (zeb tx)) /\ w' = w) := fun w => zig tx w
 have e1 := zi4 kd nn fr en tx s0 s1 s2 s3 kd 0 fr en tx 0 0 0 0
 clear h
 cases hq : tkQ ⟨kd, nn, fr, en, tx, s0, s1, s2, s3⟩ ⟨kd, 0, fr, en, tx, 0, 0, 0, 0⟩
 ·rw [hq] at e1
  clear hq HN
  go_enter Tryz.func68, Tryz.ntmps68
  go_wp2_with fail
  go_ret
  exact ⟨by simp, zai _ _ _⟩
 ·rw [hq] at e1
  clear hq
  cases he : (tx.toList == [])
  ·go_enter Tryz.func68, Tryz.ntmps68
   go_wp2_with fail
   refine (HN.out _).mono ?_
   rintro e w1 ⟨rfl, rfl⟩
   go_wp2_with fail
   go_ret
   exact ⟨by simp, zai _ _ _⟩
  ·go_enter Tryz.func68, Tryz.ntmps68
   go_wp2_with fail
   go_ret
   exact ⟨by simp, zai _ _ _⟩
theorem rg_2 (kd nn fr en s0 s1 s2 s3 : Int) (tx : ByteArray) (h : kd = 2) (w : World) : Calls Tryz.prog 68 #[.agg #[.int .i64 kd, .int .i64 nn, .int .i64 fr, .int .i64 en, .string tx, .int .u64 s0, .int .u64 s1, .int .u64 s2, .int .u64 s3]] w fun e w' => e = .returned (.bool (tkQ ⟨kd, nn, fr, en, tx, s0, s1, s2, s3⟩ ⟨kd, 0, fr, en, tx, 0, 0, 0, 0⟩ && decide ((tx.size : Int) <= 255))) /\ Below w.heap.size w w' := by
 have f1 : (kd == 1) = false := bF (by omega)
 have f21 : (kd == 21) = false := bF (by omega)
 have f2 : (kd == 2) = true := by rw [h]; rfl
 have e1 := zi4 kd nn fr en tx s0 s1 s2 s3 kd 0 fr en tx 0 0 0 0
 clear h
 cases hq : tkQ ⟨kd, nn, fr, en, tx, s0, s1, s2, s3⟩ ⟨kd, 0, fr, en, tx, 0, 0, 0, 0⟩
 ·rw [hq] at e1
  clear hq
  go_enter Tryz.func68, Tryz.ntmps68
  go_wp2_with fail
  go_ret
  exact ⟨by simp, zai _ _ _⟩
 ·rw [hq] at e1
  clear hq
  go_enter Tryz.func68, Tryz.ntmps68
  go_wp2_with fail
  go_ret
  exact ⟨by simp, zai _ _ _⟩
theorem rg_3 (kd nn fr en s0 s1 s2 s3 : Int) (tx : ByteArray) (h : kd = 3) (w : World) : Calls Tryz.prog 68 #[.agg #[.int .i64 kd, .int .i64 nn, .int .i64 fr, .int .i64 en, .string tx, .int .u64 s0, .int .u64 s1, .int .u64 s2, .int .u64 s3]] w fun e w' => e = .returned (.bool (tkQ ⟨kd, nn, fr, en, tx, s0, s1, s2, s3⟩ ⟨kd, 0, fr, en, ⟨#[]⟩, s0, s1, s2, s3⟩)) /\ Below w.heap.size w w' := by
 have f1 : (kd == 1) = false := bF (by omega)
 have f21 : (kd == 21) = false := bF (by omega)
 have f2 : (kd == 2) = false := bF (by omega)
 have f3 : (kd == 3) = true := by rw [h]; rfl
 have e1 := zi4 kd nn fr en tx s0 s1 s2 s3 kd 0 fr en ⟨#[]⟩ s0 s1 s2 s3
 clear h
 cases hq : tkQ ⟨kd, nn, fr, en, tx, s0, s1, s2, s3⟩ ⟨kd, 0, fr, en, ⟨#[]⟩, s0, s1, s2, s3⟩
 ·rw [hq] at e1
  clear hq
  go_enter Tryz.func68, Tryz.ntmps68
  go_wp2_with fail
  go_ret
  exact ⟨by simp, zai _ _ _⟩
 ·rw [hq] at e1
  clear hq
  go_enter Tryz.func68, Tryz.ntmps68
  go_wp2_with fail
  go_ret
  exact ⟨by simp, zai _ _ _⟩
theorem rg_4 (kd nn fr en s0 s1 s2 s3 : Int) (tx : ByteArray) (h : kd = 4) (w : World) : Calls Tryz.prog 68 #[.agg #[.int .i64 kd, .int .i64 nn, .int .i64 fr, .int .i64 en, .string tx, .int .u64 s0, .int .u64 s1, .int .u64 s2, .int .u64 s3]] w fun e w' => e = .returned (.bool (tkQ ⟨kd, nn, fr, en, tx, s0, s1, s2, s3⟩ ⟨kd, nn, fr, en, ⟨#[]⟩, 0, 0, 0, 0⟩ && (decide (0 <= nn) && decide (nn <= 999999)))) /\ Below w.heap.size w w' := by
 have f1 : (kd == 1) = false := bF (by omega)
 have f21 : (kd == 21) = false := bF (by omega)
 have f2 : (kd == 2) = false := bF (by omega)
 have f3 : (kd == 3) = false := bF (by omega)
 have f28 : (kd == 28) = false := bF (by omega)
 have f5 : (kd == 5) = false := bF (by omega)
 have f4 : (kd == 4) = true := by rw [h]; rfl
 have e1 := zi4 kd nn fr en tx s0 s1 s2 s3 kd nn fr en ⟨#[]⟩ 0 0 0 0
 clear h
 cases hq : tkQ ⟨kd, nn, fr, en, tx, s0, s1, s2, s3⟩ ⟨kd, nn, fr, en, ⟨#[]⟩, 0, 0, 0, 0⟩
 ·rw [hq] at e1
  clear hq
  go_enter Tryz.func68, Tryz.ntmps68
  go_wp2_with fail
  go_ret
  exact ⟨by simp, zai _ _ _⟩
 ·rw [hq] at e1
  clear hq
  by_cases h0 : 0 <= nn
  ·rw [decide_eq_true h0]
   go_enter Tryz.func68, Tryz.ntmps68
   go_wp2_with fail
   go_ret
   exact ⟨by simp, zai _ _ _⟩
  ·rw [decide_eq_false h0]
   go_enter Tryz.func68, Tryz.ntmps68
   go_wp2_with fail
   go_ret
   exact ⟨by simp, zai _ _ _⟩
theorem rg_13 (kd nn fr en s0 s1 s2 s3 : Int) (tx : ByteArray) (h : kd = 13) (w : World) : Calls Tryz.prog 68 #[.agg #[.int .i64 kd, .int .i64 nn, .int .i64 fr, .int .i64 en, .string tx, .int .u64 s0, .int .u64 s1, .int .u64 s2, .int .u64 s3]] w fun e w' => e = .returned (.bool (tkQ ⟨kd, nn, fr, en, tx, s0, s1, s2, s3⟩ ⟨kd, nn, fr, en, ⟨#[]⟩, 0, 0, 0, 0⟩ && (decide (0 <= nn) && decide (nn <= 50)))) /\ Below w.heap.size w w' := by
 have f1 : (kd == 1) = false := bF (by omega)
 have f21 : (kd == 21) = false := bF (by omega)
 have f2 : (kd == 2) = false := bF (by omega)
 have f3 : (kd == 3) = false := bF (by omega)
 have f28 : (kd == 28) = false := bF (by omega)
 have f5 : (kd == 5) = false := bF (by omega)
 have f4 : (kd == 4) = false := bF (by omega)
 have f13 : (kd == 13) = true := by rw [h]; rfl
 have e1 := zi4 kd nn fr en tx s0 s1 s2 s3 kd nn fr en ⟨#[]⟩ 0 0 0 0
 clear h
 cases hq : tkQ ⟨kd, nn, fr, en, tx, s0, s1, s2, s3⟩ ⟨kd, nn, fr, en, ⟨#[]⟩, 0, 0, 0, 0⟩
 ·rw [hq] at e1
  clear hq
  go_enter Tryz.func68, Tryz.ntmps68
  go_wp2_with fail
  go_ret
  exact ⟨by simp, zai _ _ _⟩
 ·rw [hq] at e1
  clear hq
  by_cases h0 : 0 <= nn
  ·rw [decide_eq_true h0]
   go_enter Tryz.func68, Tryz.ntmps68
   go_wp2_with fail
   go_ret
   exact ⟨by simp, zai _ _ _⟩
  ·rw [decide_eq_false h0]
   go_enter Tryz.func68, Tryz.ntmps68
   go_wp2_with fail
   go_ret
   exact ⟨by simp, zai _ _ _⟩
theorem rg_14 (kd nn fr en s0 s1 s2 s3 : Int) (tx : ByteArray) (h : kd = 14) (w : World) : Calls Tryz.prog 68 #[.agg #[.int .i64 kd, .int .i64 nn, .int .i64 fr, .int .i64 en, .string tx, .int .u64 s0, .int .u64 s1, .int .u64 s2, .int .u64 s3]] w fun e w' => e = .returned (.bool (tkQ ⟨kd, nn, fr, en, tx, s0, s1, s2, s3⟩ ⟨kd, nn, fr, en, ⟨#[]⟩, 0, 0, 0, 0⟩ && (decide (0 <= nn) && decide (nn <= 50)))) /\ Below w.heap.size w w' := by
 have f1 : (kd == 1) = false := bF (by omega)
 have f21 : (kd == 21) = false := bF (by omega)
 have f2 : (kd == 2) = false := bF (by omega)
 have f3 : (kd == 3) = false := bF (by omega)
 have f28 : (kd == 28) = false := bF (by omega)
 have f5 : (kd == 5) = false := bF (by omega)
 have f4 : (kd == 4) = false := bF (by omega)
 have f13 : (kd == 13) = false := bF (by omega)
 have f14 : (kd == 14) = true := by rw [h]; rfl
 have e1 := zi4 kd nn fr en tx s0 s1 s2 s3 kd nn fr en ⟨#[]⟩ 0 0 0 0
 clear h
 cases hq : tkQ ⟨kd, nn, fr, en, tx, s0, s1, s2, s3⟩ ⟨kd, nn, fr, en, ⟨#[]⟩, 0, 0, 0, 0⟩
 ·rw [hq] at e1
  clear hq
  go_enter Tryz.func68, Tryz.ntmps68
  go_wp2_with fail
  go_ret
  exact ⟨by simp, zai _ _ _⟩
 ·rw [hq] at e1
  clear hq
  by_cases h0 : 0 <= nn
  ·rw [decide_eq_true h0]
   go_enter Tryz.func68, Tryz.ntmps68
   go_wp2_with fail
   go_ret
   exact ⟨by simp, zai _ _ _⟩
  ·rw [decide_eq_false h0]
   go_enter Tryz.func68, Tryz.ntmps68
   go_wp2_with fail
   go_ret
   exact ⟨by simp, zai _ _ _⟩
theorem rg_15 (kd nn fr en s0 s1 s2 s3 : Int) (tx : ByteArray) (h : kd = 15) (w : World) : Calls Tryz.prog 68 #[.agg #[.int .i64 kd, .int .i64 nn, .int .i64 fr, .int .i64 en, .string tx, .int .u64 s0, .int .u64 s1, .int .u64 s2, .int .u64 s3]] w fun e w' => e = .returned (.bool (tkQ ⟨kd, nn, fr, en, tx, s0, s1, s2, s3⟩ ⟨kd, nn, fr, en, ⟨#[]⟩, 0, 0, 0, 0⟩ && (decide (0 <= nn) && decide (nn <= 50)))) /\ Below w.heap.size w w' := by
 have f1 : (kd == 1) = false := bF (by omega)
 have f21 : (kd == 21) = false := bF (by omega)
 have f2 : (kd == 2) = false := bF (by omega)
 have f3 : (kd == 3) = false := bF (by omega)
 have f28 : (kd == 28) = false := bF (by omega)
 have f5 : (kd == 5) = false := bF (by omega)
 have f4 : (kd == 4) = false := bF (by omega)
 have f13 : (kd == 13) = false := bF (by omega)
 have f14 : (kd == 14) = false := bF (by omega)
 have f15 : (kd == 15) = true := by rw [h]; rfl
 have e1 := zi4 kd nn fr en tx s0 s1 s2 s3 kd nn fr en ⟨#[]⟩ 0 0 0 0
 clear h
 cases hq : tkQ ⟨kd, nn, fr, en, tx, s0, s1, s2, s3⟩ ⟨kd, nn, fr, en, ⟨#[]⟩, 0, 0, 0, 0⟩
 ·rw [hq] at e1
  clear hq
  go_enter Tryz.func68, Tryz.ntmps68
  go_wp2_with fail
  go_ret
  exact ⟨by simp, zai _ _ _⟩
 ·rw [hq] at e1
  clear hq
  by_cases h0 : 0 <= nn
  ·rw [decide_eq_true h0]
   go_enter Tryz.func68, Tryz.ntmps68
   go_wp2_with fail
   go_ret
   exact ⟨by simp, zai _ _ _⟩
  ·rw [decide_eq_false h0]
   go_enter Tryz.func68, Tryz.ntmps68
   go_wp2_with fail
   go_ret
   exact ⟨by simp, zai _ _ _⟩
theorem rg_29 (kd nn fr en s0 s1 s2 s3 : Int) (tx : ByteArray) (h : kd = 29) (w : World) : Calls Tryz.prog 68 #[.agg #[.int .i64 kd, .int .i64 nn, .int .i64 fr, .int .i64 en, .string tx, .int .u64 s0, .int .u64 s1, .int .u64 s2, .int .u64 s3]] w fun e w' => e = .returned (.bool (tkQ ⟨kd, nn, fr, en, tx, s0, s1, s2, s3⟩ ⟨kd, 0, fr, en, ⟨#[]⟩, 0, 0, 0, 0⟩)) /\ Below w.heap.size w w' := by
 have f1 : (kd == 1) = false := bF (by omega)
 have f21 : (kd == 21) = false := bF (by omega)
 have f2 : (kd == 2) = false := bF (by omega)
 have f3 : (kd == 3) = false := bF (by omega)
 have f28 : (kd == 28) = false := bF (by omega)
 have f5 : (kd == 5) = false := bF (by omega)
 have f4 : (kd == 4) = false := bF (by omega)
 have f13 : (kd == 13) = false := bF (by omega)
 have f14 : (kd == 14) = false := bF (by omega)
 have f15 : (kd == 15) = false := bF (by omega)
 have f29 : (kd == 29) = true := by rw [h]; rfl
 have e1 := zi4 kd nn fr en tx s0 s1 s2 s3 kd 0 fr en ⟨#[]⟩ 0 0 0 0
 clear h
 cases hq : tkQ ⟨kd, nn, fr, en, tx, s0, s1, s2, s3⟩ ⟨kd, 0, fr, en, ⟨#[]⟩, 0, 0, 0, 0⟩
 ·rw [hq] at e1
  clear hq
  go_enter Tryz.func68, Tryz.ntmps68
  go_wp2_with fail
  go_ret
  exact ⟨by simp, zai _ _ _⟩
 ·rw [hq] at e1
  clear hq
  go_enter Tryz.func68, Tryz.ntmps68
  go_wp2_with fail
  go_ret
  exact ⟨by simp, zai _ _ _⟩
theorem rg_30 (kd nn fr en s0 s1 s2 s3 : Int) (tx : ByteArray) (h : kd = 30) (w : World) : Calls Tryz.prog 68 #[.agg #[.int .i64 kd, .int .i64 nn, .int .i64 fr, .int .i64 en, .string tx, .int .u64 s0, .int .u64 s1, .int .u64 s2, .int .u64 s3]] w fun e w' => e = .returned (.bool (tkQ ⟨kd, nn, fr, en, tx, s0, s1, s2, s3⟩ ⟨kd, 0, fr, en, ⟨#[]⟩, 0, 0, 0, 0⟩)) /\ Below w.heap.size w w' := by
 have f1 : (kd == 1) = false := bF (by omega)
 have f21 : (kd == 21) = false := bF (by omega)
 have f2 : (kd == 2) = false := bF (by omega)
 have f3 : (kd == 3) = false := bF (by omega)
 have f28 : (kd == 28) = false := bF (by omega)
 have f5 : (kd == 5) = false := bF (by omega)
 have f4 : (kd == 4) = false := bF (by omega)
 have f13 : (kd == 13) = false := bF (by omega)
 have f14 : (kd == 14) = false := bF (by omega)
 have f15 : (kd == 15) = false := bF (by omega)
 have f29 : (kd == 29) = false := bF (by omega)
 have f30 : (kd == 30) = true := by rw [h]; rfl
 have e1 := zi4 kd nn fr en tx s0 s1 s2 s3 kd 0 fr en ⟨#[]⟩ 0 0 0 0
 clear h
 cases hq : tkQ ⟨kd, nn, fr, en, tx, s0, s1, s2, s3⟩ ⟨kd, 0, fr, en, ⟨#[]⟩, 0, 0, 0, 0⟩
 ·rw [hq] at e1
  clear hq
  go_enter Tryz.func68, Tryz.ntmps68
  go_wp2_with fail
  go_ret
  exact ⟨by simp, zai _ _ _⟩
 ·rw [hq] at e1
  clear hq
  go_enter Tryz.func68, Tryz.ntmps68
  go_wp2_with fail
  go_ret
  exact ⟨by simp, zai _ _ _⟩
def txF (k : Int) (tx : ByteArray) : Bool := if k = 1 then zeb tx else if k = 21 then (tx.toList == []) || zeb tx else if k = 2 then decide ((tx.size : Int) <= 255) else if k = 28 then ((tx.size : Int) == 1) else (tx.toList == [])
def nbF (k n s0 : Int) : Bool := decide (0 <= n) && decide (n <= if k = 5 then s0 else gtK k)
def seF (k : Int) (tx : ByteArray) (s0 s1 s2 s3 : Int) : Bool := if k = 3 then true else if k = 28 then ((cls (chr tx 0).toNat).2 == 0) && (s0 == wd (cls (chr tx 0).toNat).1 0 && (s1 == wd (cls (chr tx 0).toNat).1 1 && (s2 == wd (cls (chr tx 0).toNat).1 2 && s3 == wd (cls (chr tx 0).toNat).1 3))) else if k = 5 then decide (s0 <= 1114111) && (s0 == s0 && (s1 == 0 && (s2 == 0 && s3 == 0))) else (s0 == 0 && (s1 == 0 && (s2 == 0 && s3 == 0)))
theorem rg_no (kd nn fr en s0 s1 s2 s3 : Int) (tx : ByteArray) (n1 : ¬ kd = 1) (n21 : ¬ kd = 21) (n2 : ¬ kd = 2) (n3 : ¬ kd = 3) (n28 : ¬ kd = 28) (n5 : ¬ kd = 5) (n4 : ¬ kd = 4) (n13 : ¬ kd = 13) (n14 : ¬ kd = 14) (n15 : ¬ kd = 15) (n29 : ¬ kd = 29) (n30 : ¬ kd = 30) (w : World) : Calls Tryz.prog 68 #[.agg #[.int .i64 kd, .int .i64 nn, .int .i64 fr, .int .i64 en, .string tx, .int .u64 s0, .int .u64 s1, .int .u64 s2, .int .u64 s3]] w fun e w' => e = .returned (.bool (tkQ ⟨kd, nn, fr, en, tx, s0, s1, s2, s3⟩ ⟨kd, 0, fr, en, ⟨#[]⟩, 0, 0, 0, 0⟩ && (decide (1 <= kd) && decide (kd <= 30)))) /\ Below w.heap.size w w' := by
 have f1 : (kd == 1) = false := bF n1
 have f21 : (kd == 21) = false := bF n21
 have f2 : (kd == 2) = false := bF n2
 have f3 : (kd == 3) = false := bF n3
 have f28 : (kd == 28) = false := bF n28
 have f5 : (kd == 5) = false := bF n5
 have f4 : (kd == 4) = false := bF n4
 have f13 : (kd == 13) = false := bF n13
 have f14 : (kd == 14) = false := bF n14
 have f15 : (kd == 15) = false := bF n15
 have f29 : (kd == 29) = false := bF n29
 have f30 : (kd == 30) = false := bF n30
 have e1 := zi4 kd nn fr en tx s0 s1 s2 s3 kd 0 fr en ⟨#[]⟩ 0 0 0 0
 cases hq : tkQ ⟨kd, nn, fr, en, tx, s0, s1, s2, s3⟩ ⟨kd, 0, fr, en, ⟨#[]⟩, 0, 0, 0, 0⟩
 ·rw [hq] at e1
  clear hq n1 n21 n2 n3 n28 n5 n4 n13 n14 n15 n29 n30
  go_enter Tryz.func68, Tryz.ntmps68
  go_wp2_with fail
  go_ret
  exact ⟨by simp, zai _ _ _⟩
 ·rw [hq] at e1
  clear hq
  by_cases hin : 1 <= kd /\ kd <= 30
  ·obtain ⟨k, rfl⟩ : ∃ k : Nat, kd = k := ⟨kd.toNat, by omega⟩
   have HS : Hid (∀ w, Calls Tryz.prog 72 #[.int .i64 (k : Int)] w fun e w' => e = .returned (.string ⟨(sgn k).toArray⟩) /\ Below w.heap.size w w') := fun w => zhw k (by omega) (by omega) w
   have g1 : ((⟨(sgn k).toArray⟩ : ByteArray).toList == []) = false := sgn_ne k (by omega) (by omega) ⟨by omega, by omega, by omega, by omega, by omega, by omega, by omega, by omega, by omega, by omega, by omega, by omega⟩
   have g2 : ((⟨(sgn k).toArray⟩ : ByteArray).toList != []) = true := by rw [bne, g1]; rfl
   have g3 : ((⟨(sgn k).toArray⟩ : ByteArray).toList.isEmpty) = false := by
    rw [<- g1]; cases (⟨(sgn k).toArray⟩ : ByteArray).toList <;> rfl
   rw [decide_eq_true hin.1, decide_eq_true hin.2]
   clear hin n1 n21 n2 n3 n28 n5 n4 n13 n14 n15 n29 n30
   generalize (ByteArray.mk (sgn k).toArray) = sx at *
   go_enter Tryz.func68, Tryz.ntmps68
   go_wp2_with fail
   refine (HS.out _).mono ?_
   rintro e w1 ⟨rfl, hb⟩
   go_wp2_with fail
   go_ret
   exact ⟨by simp, (zai _ _ _).trans (hb.mono (by simp; omega))⟩
  ·have HS : Hid (∀ w, Calls Tryz.prog 72 #[.int .i64 kd] w fun e w' => e = .returned (.string ⟨#[]⟩) /\ Below w.heap.size w w') := fun w => zm4 kd (by omega) w
   have HD : Hid ((decide (1 <= kd) && decide (kd <= 30)) = false) := by
    show _ = _
    rw [Bool.and_eq_false_iff, decide_eq_false_iff_not, decide_eq_false_iff_not]; omega
   clear hin n1 n21 n2 n3 n28 n5 n4 n13 n14 n15 n29 n30
   go_enter Tryz.func68, Tryz.ntmps68
   go_wp2_with fail
   refine (HS.out _).mono ?_
   rintro e w1 ⟨rfl, hb⟩
   go_wp2_with fail
   go_ret
   exact ⟨by rw [HD.out]; rfl, (zai _ _ _).trans (hb.mono (by simp; omega))⟩
theorem rg_5 (kd nn fr en s0 s1 s2 s3 : Int) (tx : ByteArray) (h : kd = 5) (u0 : 0 <= s0) (u1 : s0 < 18446744073709551616) (w : World) : Calls Tryz.prog 68 #[.agg #[.int .i64 kd, .int .i64 nn, .int .i64 fr, .int .i64 en, .string tx, .int .u64 s0, .int .u64 s1, .int .u64 s2, .int .u64 s3]] w fun e w' => e = .returned (.bool (tkQ ⟨kd, nn, fr, en, tx, s0, s1, s2, s3⟩ ⟨kd, nn, fr, en, ⟨#[]⟩, s0, 0, 0, 0⟩ && (decide (0 <= nn) && (decide (s0 <= 1114111) && decide (nn <= s0))))) /\ Below w.heap.size w w' := by
 have f1 : (kd == 1) = false := bF (by omega)
 have f21 : (kd == 21) = false := bF (by omega)
 have f2 : (kd == 2) = false := bF (by omega)
 have f3 : (kd == 3) = false := bF (by omega)
 have f28 : (kd == 28) = false := bF (by omega)
 have f5 : (kd == 5) = true := by rw [h]; rfl
 have e1 := zi4 kd nn fr en tx s0 s1 s2 s3 kd nn fr en ⟨#[]⟩ s0 0 0 0
 clear h
 cases hq : tkQ ⟨kd, nn, fr, en, tx, s0, s1, s2, s3⟩ ⟨kd, nn, fr, en, ⟨#[]⟩, s0, 0, 0, 0⟩
 ·rw [hq] at e1
  clear hq
  go_enter Tryz.func68, Tryz.ntmps68
  go_wp2_with fail
  go_region
  all_goals
   go_wp2_with fail
   go_ret
   exact ⟨by simp, ((zai _ _ _).drew)⟩
 ·rw [hq] at e1
  clear hq
  by_cases h0 : 0 <= nn
  ·by_cases h1 : s0 <= 1114111
   ·have hw : IntKind.i64.wrap s0 = s0 := by rw [IntKind.wrap_i64]; omega
    rw [decide_eq_true h0, decide_eq_true h1]
    go_enter Tryz.func68, Tryz.ntmps68
    go_wp2_with fail
    go_region
    all_goals
     go_wp2_with fail
     go_ret
     exact ⟨by simp, ((zai _ _ _).drew)⟩
   ·rw [decide_eq_true h0, decide_eq_false h1]
    go_enter Tryz.func68, Tryz.ntmps68
    go_wp2_with fail
    go_region
    all_goals
     go_wp2_with fail
     go_ret
     exact ⟨by simp, ((zai _ _ _).drew)⟩
  ·rw [decide_eq_false h0]
   go_enter Tryz.func68, Tryz.ntmps68
   go_wp2_with fail
   go_region
   all_goals
    go_wp2_with fail
    go_ret
    exact ⟨by simp, ((zai _ _ _).drew)⟩
def riF (t : Tk) : Bool := decide (1 <= t.kd) && decide (t.kd <= 30) && txF t.kd t.tx && nbF t.kd t.nn t.s0 && seF t.kd t.tx t.s0 t.s1 t.s2 t.s3
structure T2 (w W : World) (t u : Tk) : Prop where
 b : Below w.heap.size w W
 x : TX W w.heap.size t
 y : TX W (w.heap.size + 1) u
theorem T2.new (w : World) (t u : Tk) : T2 w ((w.alloc (tkO t)).alloc (tkO u)) t u := ⟨zai _ _ _, (TX.new w t).below (zaa _ _), by have := TX.new (w.alloc (tkO t)) u; rwa [World.size_alloc] at this⟩
theorem T2.below {w W W' : World} {t u : Tk} (h : T2 w W t u) (hb : Below W.heap.size W W') : T2 w W' t u := ⟨h.b.trans (hb.mono h.b.size), h.x.below hb, h.y.below hb⟩
theorem rg_28 (kd nn fr en s0 s1 s2 s3 : Int) (tx : ByteArray) (h : kd = 28) (c : Int) (hc : chr tx 0 = c) (x : BitVec 256) (q : Int) (HC : Hid (∀ w, Calls Tryz.prog 87 #[.int .i64 c] w fun e w' => e = .returned (.tuple #[sv x, .int .i64 q]) /\ Below w.heap.size w w')) (w : World) : Calls Tryz.prog 68 #[.agg #[.int .i64 kd, .int .i64 nn, .int .i64 fr, .int .i64 en, .string tx, .int .u64 s0, .int .u64 s1, .int .u64 s2, .int .u64 s3]] w fun e w' => e = .returned (.bool ((q == 0) && (((tx.size : Int) == 1) && tkQ ⟨kd, nn, fr, en, tx, s0, s1, s2, s3⟩ ⟨kd, 0, fr, en, tx, wd x 0, wd x 1, wd x 2, wd x 3⟩))) /\ Below w.heap.size w w' := by
 have f1 : (kd == 1) = false := bF (by omega)
 have f21 : (kd == 21) = false := bF (by omega)
 have f2 : (kd == 2) = false := bF (by omega)
 have f3 : (kd == 3) = false := bF (by omega)
 have f28 : (kd == 28) = true := by rw [h]; rfl
 have HA : Hid (∀ w, Calls Tryz.prog 55 #[.string tx, .int .i64 0] w fun e w' => e = .returned (.int .i64 c) /\ w' = w) := fun w => by rw [<- hc]; exact za0 tx 0 w
 have HT := hO (T2.new w ⟨kd, nn, fr, en, tx, s0, s1, s2, s3⟩ ⟨kd, 0, fr, en, ⟨#[]⟩, 0, 0, 0, 0⟩)
 have e1 := zi4 kd nn fr en tx s0 s1 s2 s3 kd 0 fr en tx (wd x 0) (wd x 1) (wd x 2) (wd x 3)
 clear h hc
 go_enter Tryz.func68, Tryz.ntmps68
 go_wp2_with fail
 refine (HA.out _).mono ?_
 rintro e w1 ⟨rfl, rfl⟩
 go_wp2_with fail
 refine (HC.out _).mono ?_
 rintro e w1 ⟨rfl, hb⟩
 have HT1 := hO (HT.out.below hb)
 obtain ⟨c0, c1, c2, c3, c4, c5, c6, c7, c8⟩ := HT1.out.x.cells
 obtain ⟨d0, d1, d2, d3, d4, d5, d6, d7, d8⟩ := HT1.out.y.cells
 obtain ⟨g0, g1, g2, g3, g4, g5, g6, g7, g8⟩ := HT1.out.y.fz
 dsimp only at c0 c1 c2 c3 c4 c5 c6 c7 c8 d0 d1 d2 d3 d4 d5 d6 d7 d8
 have lt1 := HT1.out.x.lt
 have lt2 := HT1.out.y.lt
 clear HT hb HC HA
 have HB : Hid (Below w.heap.size w w1) := HT1.out.b
 clear HT1
 cases hq : tkQ ⟨kd, nn, fr, en, tx, s0, s1, s2, s3⟩ ⟨kd, 0, fr, en, tx, wd x 0, wd x 1, wd x 2, wd x 3⟩
 all_goals
  rw [hq] at e1
  have HQ := hO hq
  clear hq
  by_cases h0 : q = 0
 all_goals
  first
  | (have v0 : (q == 0) = true := by rw [h0]; rfl)
  | (have v0 : (q == 0) = false := bF h0)
  clear h0
  by_cases h1 : (tx.size : Int) = 1
 all_goals
  first
  | (have v1 : ((tx.size : Int) == 1) = true := by rw [h1]; rfl)
  | (have v1 : ((tx.size : Int) == 1) = false := bF h1)
  clear h1
  go_wp2_with fail
  go_region
 all_goals
  go_wp2_with fail
  go_ret
  have h := (((((HB.out.setCell (p := ⟨w.heap.size + 1, 4, none⟩) (by simp) (.string tx)).setCell (p := ⟨w.heap.size + 1, 5, none⟩) (by simp) (.int .u64 (wd x 0))).setCell (p := ⟨w.heap.size + 1, 6, none⟩) (by simp) (.int .u64 (wd x 1))).setCell (p := ⟨w.heap.size + 1, 7, none⟩) (by simp) (.int .u64 (wd x 2))).setCell (p := ⟨w.heap.size + 1, 8, none⟩) (by simp) (.int .u64 (wd x 3)))
  exact ⟨by rw [v0, v1, HQ.out]; rfl, (h.alloc h.size _).drew⟩
end Go.Proofs.YtkihfkcmcdiajaaGreatDoor
