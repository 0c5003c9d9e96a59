/- Plain mathematics: how many bits of a word are set, as the library reckons it. -/
import Derived.Test.YtlcmlipldkpliaaSlots
namespace Go.Proofs.Ytlcmlipldkpliaa

/-- How many numbers below n the test names. -/
def cntTo (f : Nat → Bool) : Nat → Nat
  | 0 => 0
  | n + 1 => cntTo f n + (f n).toNat
theorem cntTo_succ (f : Nat → Bool) (n : Nat) : cntTo f (n + 1) = cntTo f n + (f n).toNat := rfl
theorem cntTo_le (f : Nat → Bool) (n : Nat) : cntTo f n ≤ n := by
  induction n with
  | zero => exact Nat.le_refl _
  | succ n ih => unfold cntTo; cases f n <;> simp <;> omega
theorem cntTo_add (f : Nat → Bool) (m n : Nat) : cntTo f (m + n) = cntTo f m + cntTo (fun j => f (m + j)) n := by
  induction n with
  | zero => simp [cntTo]
  | succ n ih => rw [← Nat.add_assoc, cntTo_succ, cntTo_succ, ih]; omega
theorem cntTo_congr (f g : Nat → Bool) (n : Nat) (h : ∀ j, j < n → f j = g j) : cntTo f n = cntTo g n := by
  induction n with
  | zero => rfl
  | succ n ih => unfold cntTo; rw [h n (by omega), ih (fun j hj => h j (by omega))]

theorem and_split (b y m M : Nat) (hb : b < 256) (hm : m < 256) : (b + 256 * y) &&& (m + 256 * M) = (b &&& m) + 256 * (y &&& M) := by
  have key : ∀ (c z : Nat), c < 256 → c + 256 * z = 2 ^ 8 * z ||| c := fun c z hc => by
    rw [← Nat.two_pow_add_eq_or_of_lt (by omega : c < 2 ^ 8)]; omega
  have hlt : b &&& m < 256 := Nat.lt_of_le_of_lt Nat.and_le_left hb
  rw [key b y hb, key m M hm, key _ _ hlt]
  apply Nat.eq_of_testBit_eq
  intro i
  simp only [Nat.testBit_and, Nat.testBit_or, Nat.testBit_two_pow_mul]
  by_cases h : 8 ≤ i
  · have e1 : b.testBit i = false := Nat.testBit_lt_two_pow (Nat.lt_of_lt_of_le (by omega : b < 2 ^ 8) (Nat.pow_le_pow_right (by omega) h))
    have e2 : m.testBit i = false := Nat.testBit_lt_two_pow (Nat.lt_of_lt_of_le (by omega : m < 2 ^ 8) (Nat.pow_le_pow_right (by omega) h))
    simp [h, e1, e2]
  · simp [h]

/-- k bytes, the lowest first. -/
def ofBy : List Nat → Nat
  | [] => 0
  | b :: l => b + 256 * ofBy l
theorem ofBy_cons (b : Nat) (l : List Nat) : ofBy (b :: l) = b + 256 * ofBy l := rfl
/-- k times the same byte. -/
def rep (m k : Nat) : Nat := ofBy (List.replicate k m)

theorem half_dec : ∀ b : Fin 256, ∀ c : Fin 2, ((b.val / 2 + 128 * c.val) &&& 85) = ((b.val / 2) &&& 85) := by decide +kernel
theorem quart_dec : ∀ b : Fin 256, ∀ c : Fin 4, ((b.val / 4 + 64 * c.val) &&& 51) = ((b.val / 4) &&& 51) := by decide +kernel
def s1 (b : Nat) : Nat := ((b / 2) &&& 85) + (b &&& 85)
def s2 (b : Nat) : Nat := ((b / 4) &&& 51) + (b &&& 51)
def s3 (b : Nat) : Nat := (b / 16 + b) % 16
theorem s1_lt : ∀ b : Fin 256, s1 b.val < 256 := by decide +kernel
theorem s2_lt : ∀ b : Fin 256, s2 b.val < 256 := by decide +kernel
theorem s2_nib : ∀ b : Fin 256, s2 (s1 b.val) ≤ 68 ∧ s2 (s1 b.val) % 16 ≤ 4 := by decide +kernel
theorem pop_dec : ∀ b : Fin 256, s3 (s2 (s1 b.val)) = cntTo b.val.testBit 8 := by decide +kernel

theorem S1 (l : List Nat) (h : ∀ b ∈ l, b < 256) : ((ofBy l / 2) &&& rep 85 l.length) + (ofBy l &&& rep 85 l.length) = ofBy (l.map s1) := by
  induction l with
  | nil => rfl
  | cons b l ih =>
    have ih := ih (fun x hx => h x (by simp [hx]))
    have hb : b < 256 := h b (by simp)
    have e : (ofBy (b :: l)) / 2 = (b / 2 + 128 * (ofBy l % 2)) + 256 * (ofBy l / 2) := by rw [ofBy_cons]; generalize ofBy l = z; omega
    have hd := half_dec ⟨b, hb⟩ ⟨ofBy l % 2, by omega⟩
    have hr : rep 85 (b :: l).length = 85 + 256 * rep 85 l.length := rfl
    rw [e, hr, and_split _ _ _ _ (by omega) (by omega), hd]
    rw [show ofBy (b :: l) = b + 256 * ofBy l from rfl, and_split _ _ _ _ hb (by omega)]
    rw [show ofBy ((b :: l).map s1) = s1 b + 256 * ofBy (l.map s1) from rfl, ← ih, show s1 b = ((b / 2) &&& 85) + (b &&& 85) from rfl]
    dsimp only
    omega
theorem S2 (l : List Nat) (h : ∀ b ∈ l, b < 256) : ((ofBy l / 4) &&& rep 51 l.length) + (ofBy l &&& rep 51 l.length) = ofBy (l.map s2) := by
  induction l with
  | nil => rfl
  | cons b l ih =>
    have ih := ih (fun x hx => h x (by simp [hx]))
    have hb : b < 256 := h b (by simp)
    have e : (ofBy (b :: l)) / 4 = (b / 4 + 64 * (ofBy l % 4)) + 256 * (ofBy l / 4) := by rw [ofBy_cons]; generalize ofBy l = z; omega
    have hd := quart_dec ⟨b, hb⟩ ⟨ofBy l % 4, by omega⟩
    have hr : rep 51 (b :: l).length = 51 + 256 * rep 51 l.length := rfl
    rw [e, hr, and_split _ _ _ _ (by omega) (by omega), hd]
    rw [show ofBy (b :: l) = b + 256 * ofBy l from rfl, and_split _ _ _ _ hb (by omega)]
    rw [show ofBy ((b :: l).map s2) = s2 b + 256 * ofBy (l.map s2) from rfl, ← ih, show s2 b = ((b / 4) &&& 51) + (b &&& 51) from rfl]
    dsimp only
    omega
theorem and15 (n : Nat) : n &&& 15 = n % 16 := Nat.and_two_pow_sub_one_eq_mod n 4
theorem S3 (l : List Nat) (h : ∀ b ∈ l, b ≤ 68 ∧ b % 16 ≤ 4) : ((ofBy l / 16 + ofBy l) &&& rep 15 l.length) = ofBy (l.map s3) := by
  induction l with
  | nil => rfl
  | cons b l ih =>
    have ih := ih (fun x hx => h x (by simp [hx]))
    have hb := h b (by simp)
    have hn : ofBy l % 16 ≤ 4 := by
      cases l with
      | nil => simp [ofBy]
      | cons c l => have := h c (by simp); rw [ofBy_cons]; generalize ofBy l = z; omega
    have e : (ofBy (b :: l)) / 16 + ofBy (b :: l) = (b / 16 + 16 * (ofBy l % 16) + b) + 256 * (ofBy l / 16 + ofBy l) := by rw [ofBy_cons]; generalize ofBy l = z; omega
    have hr : rep 15 (b :: l).length = 15 + 256 * rep 15 l.length := rfl
    rw [e, hr, and_split _ _ _ _ (by omega) (by omega), ih, and15]
    rw [show ofBy ((b :: l).map s3) = s3 b + 256 * ofBy (l.map s3) from rfl, show s3 b = (b / 16 + b) % 16 from rfl]
    omega

/-- What the library reckons. -/
def pop64 (x : Nat) : Nat :=
  let x1 := ((x / 2) &&& 6148914691236517205) + (x &&& 6148914691236517205)
  let x2 := ((x1 / 4) &&& 3689348814741910323) + (x1 &&& 3689348814741910323)
  let x3 := (x2 / 16 + x2) &&& 1085102592571150095
  let x4 := x3 + x3 / 256
  let x5 := x4 + x4 / 65536
  let x6 := x5 + x5 / 4294967296
  x6 % 128

theorem fold8 (a b c d e f g h : Nat) (ha : a ≤ 8) (hb : b ≤ 8) (hc : c ≤ 8) (hd : d ≤ 8) (he : e ≤ 8) (hf : f ≤ 8) (hg : g ≤ 8) (hh : h ≤ 8) :
    let x3 := a + 256 * (b + 256 * (c + 256 * (d + 256 * (e + 256 * (f + 256 * (g + 256 * (h + 256 * 0)))))))
    let x4 := x3 + x3 / 256
    let x5 := x4 + x4 / 65536
    let x6 := x5 + x5 / 4294967296
    x6 % 128 = a + b + c + d + e + f + g + h := by
  intro x3 x4 x5 x6
  have q3 : x3 / 256 = b + 256 * (c + 256 * (d + 256 * (e + 256 * (f + 256 * (g + 256 * h))))) := by omega
  have e4 : x4 = (a + b) + 256 * ((b + c) + 256 * ((c + d) + 256 * ((d + e) + 256 * ((e + f) + 256 * ((f + g) + 256 * ((g + h) + 256 * h)))))) := by
    show x3 + x3 / 256 = _
    rw [q3]; omega
  have q4 : x4 / 65536 = (c + d) + 256 * ((d + e) + 256 * ((e + f) + 256 * ((f + g) + 256 * ((g + h) + 256 * h)))) := by
    rw [e4]; clear e4 q3 x4 x5 x6 x3; omega
  have e5 : x5 = (a + b + c + d) + 256 * ((b + c + d + e) + 256 * ((c + d + e + f) + 256 * ((d + e + f + g) + 256 * ((e + f + g + h) + 256 * ((f + g + h) + 256 * ((g + h) + 256 * h)))))) := by
    show x4 + x4 / 65536 = _
    rw [q4, e4]; clear e4 q3 q4 x4 x5 x6 x3; omega
  have q5 : x5 / 4294967296 = (e + f + g + h) + 256 * ((f + g + h) + 256 * ((g + h) + 256 * h)) := by
    rw [e5]; clear e4 q3 q4 e5 x4 x5 x6 x3; omega
  show (x5 + x5 / 4294967296) % 128 = _
  rw [q5, e5]; clear e4 q3 q4 e5 q5 x4 x5 x6 x3; omega

theorem byteBit (x i j : Nat) (hj : j < 8) : (x / 256 ^ i % 256).testBit j = x.testBit (8 * i + j) := by
  rw [show (256 : Nat) ^ i = 2 ^ (8 * i) from by rw [Nat.pow_mul], show (256 : Nat) = 2 ^ 8 from rfl, Nat.testBit_mod_two_pow, Nat.testBit_div_two_pow]
  simp [hj, Nat.add_comm]
theorem cnt_byte (x i : Nat) : cntTo (fun j => x.testBit (8 * i + j)) 8 = s3 (s2 (s1 (x / 256 ^ i % 256))) := by
  rw [pop_dec ⟨x / 256 ^ i % 256, by omega⟩]
  exact cntTo_congr _ _ _ fun j hj => (byteBit x i j hj).symm
theorem by8 (x : Nat) (h : x < 18446744073709551616) : x = ofBy [x / 256 ^ 0 % 256, x / 256 ^ 1 % 256, x / 256 ^ 2 % 256, x / 256 ^ 3 % 256, x / 256 ^ 4 % 256, x / 256 ^ 5 % 256, x / 256 ^ 6 % 256, x / 256 ^ 7 % 256] := by
  simp only [ofBy]
  omega
theorem pop64_eq (x : Nat) (h : x < 18446744073709551616) : pop64 x = cntTo x.testBit 64 := by
  have e := by8 x h
  have hc : cntTo x.testBit 64 = s3 (s2 (s1 (x / 256 ^ 0 % 256))) + s3 (s2 (s1 (x / 256 ^ 1 % 256))) + s3 (s2 (s1 (x / 256 ^ 2 % 256))) + s3 (s2 (s1 (x / 256 ^ 3 % 256))) + s3 (s2 (s1 (x / 256 ^ 4 % 256))) + s3 (s2 (s1 (x / 256 ^ 5 % 256))) + s3 (s2 (s1 (x / 256 ^ 6 % 256))) + s3 (s2 (s1 (x / 256 ^ 7 % 256))) := by
    rw [← cnt_byte, ← cnt_byte, ← cnt_byte, ← cnt_byte, ← cnt_byte, ← cnt_byte, ← cnt_byte, ← cnt_byte]
    rw [show (64 : Nat) = 8 + (8 + (8 + (8 + (8 + (8 + (8 + 8)))))) from rfl]
    rw [cntTo_add, cntTo_add, cntTo_add, cntTo_add, cntTo_add, cntTo_add, cntTo_add]
    simp only [Nat.mul_zero, Nat.zero_add, Nat.mul_one, ← Nat.add_assoc, Nat.reduceMul, Nat.reduceAdd]
  have l8 : ∀ i, s3 (s2 (s1 (x / 256 ^ i % 256))) ≤ 8 := fun i => by rw [← cnt_byte]; exact cntTo_le _ _
  rw [hc]
  have k0 : ∀ i, x / 256 ^ i % 256 < 256 := fun i => Nat.mod_lt _ (by omega)
  have a0 := l8 0
  have a1 := l8 1
  have a2 := l8 2
  have a3 := l8 3
  have a4 := l8 4
  have a5 := l8 5
  have a6 := l8 6
  have a7 := l8 7
  have b0 := k0 0
  have b1 := k0 1
  have b2 := k0 2
  have b3 := k0 3
  have b4 := k0 4
  have b5 := k0 5
  have b6 := k0 6
  have b7 := k0 7
  clear l8 k0 hc
  generalize x / 256 ^ 0 % 256 = y0 at *
  generalize x / 256 ^ 1 % 256 = y1 at *
  generalize x / 256 ^ 2 % 256 = y2 at *
  generalize x / 256 ^ 3 % 256 = y3 at *
  generalize x / 256 ^ 4 % 256 = y4 at *
  generalize x / 256 ^ 5 % 256 = y5 at *
  generalize x / 256 ^ 6 % 256 = y6 at *
  generalize x / 256 ^ 7 % 256 = y7 at *
  have hl : ∀ b ∈ [y0, y1, y2, y3, y4, y5, y6, y7], b < 256 := by
    intro b hb; simp only [List.mem_cons, List.not_mem_nil, or_false] at hb; omega
  have m1 := S1 _ hl
  have m2 := S2 _ (fun b hb => by obtain ⟨c, hc, rfl⟩ := List.mem_map.1 hb; exact s1_lt ⟨c, hl c hc⟩)
  have m3 := S3 (([y0, y1, y2, y3, y4, y5, y6, y7].map s1).map s2) (fun b hb => by
    obtain ⟨c, hc, rfl⟩ := List.mem_map.1 hb
    obtain ⟨d, hd, rfl⟩ := List.mem_map.1 hc
    exact s2_nib ⟨d, hl d hd⟩)
  rw [← e] at m1
  rw [← m1] at m2
  rw [← m2] at m3
  have r1 : rep 85 [y0, y1, y2, y3, y4, y5, y6, y7].length = 6148914691236517205 := (by decide +kernel : rep 85 8 = 6148914691236517205)
  have r2 : rep 51 ([y0, y1, y2, y3, y4, y5, y6, y7].map s1).length = 3689348814741910323 := (by decide +kernel : rep 51 8 = 3689348814741910323)
  have r3 : rep 15 (([y0, y1, y2, y3, y4, y5, y6, y7].map s1).map s2).length = 1085102592571150095 := (by decide +kernel : rep 15 8 = 1085102592571150095)
  rw [r1, r2, r3] at m3
  have f8 := fold8 _ _ _ _ _ _ _ _ a0 a1 a2 a3 a4 a5 a6 a7
  show (let x1 := ((x / 2) &&& 6148914691236517205) + (x &&& 6148914691236517205)
    let x2 := ((x1 / 4) &&& 3689348814741910323) + (x1 &&& 3689348814741910323)
    let x3 := (x2 / 16 + x2) &&& 1085102592571150095
    let x4 := x3 + x3 / 256
    let x5 := x4 + x4 / 65536
    let x6 := x5 + x5 / 4294967296
    x6 % 128) = _
  dsimp only
  rw [m3]
  exact f8

end Go.Proofs.Ytlcmlipldkpliaa
