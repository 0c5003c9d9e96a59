/- DERIVED. Plain mathematics and walks, laid together (13). -/
import Derived.Test.YtnpifgcgjgddoaaGreatDoorPw12
set_option maxRecDepth 100000
set_option maxHeartbeats 8000000
namespace Go.Proofs.YtnpifgcgjgddoaaGreatDoor
open Go.RowKit
theorem zdq (s : ByteArray) (q : Int) (b : Nat) (hq : 0 <= q) : ∀ (f : Nat) (out : List Int) (i : Nat) (t : Tk), zbF s q b f out i = .inl t -> ∃ e : Nat, t.en = e /\ i < e /\ e <= s.size := by
 intro f
 induction f with
 | zero => intro out i t h; rw [zbF] at h; cases h
 | succ f ih =>
  intro out i t h
  rw [zbF] at h
  split at h
  ·cases h
  next h0 =>
  split at h
  next h1 =>
   split at h
   ·cases h
   ·cases h
    have := zaD (s := s) (i := i) (by omega)
    exact ⟨i + 1, rfl, by omega, by omega⟩
  split at h
  ·cases h
  split at h
  ·obtain ⟨e, h1, h2, h3⟩ := ih _ _ _ h
   exact ⟨e, h1, by omega, h3⟩
  ·split at h
   ·cases h
   ·next c n he =>
    have h4 := zfZ he
    obtain ⟨e, h1, h2, h3⟩ := ih _ _ _ h
    exact ⟨e, h1, by omega, h3⟩
theorem zmV (s : ByteArray) (q : Int) (b : Nat) : ∀ (f : Nat) (out : List Int) (i : Nat) (p : Nat × Int), zbF s q b f out i = .inr p -> p.2 ≠ 0 := by
 intro f
 induction f with
 | zero => intro out i p h; rw [zbF] at h; cases h; simp
 | succ f ih =>
  intro out i p h
  rw [zbF] at h
  split at h
  ·cases h; simp
  split at h
  ·split at h
   ·cases h; simp
   ·cases h
  split at h
  ·cases h; simp
  split at h
  ·exact ih _ _ _ h
  ·split at h
   ·cases h; simp
   ·exact ih _ _ _ h
theorem zkL {s : ByteArray} {d : Nat} {m n : Int} (h : zdd s d m = .inl n) : d < spN dgB s d := by
 unfold zdd at h
 split at h
 ·cases h
 ·omega
theorem zim {s : ByteArray} {b d : Nat} {k : Int} {t : Tk} (hd : d <= s.size) (h : nmR s b d k = .inl t) : ∃ e : Nat, t.en = e /\ d < e /\ e <= s.size := by
 unfold nmR at h
 cases hn : zdd s d (gtK k) with
 | inr e => rw [hn] at h; cases h
 | inl n =>
  rw [hn] at h
  cases h
  exact ⟨_, rfl, zkL hn, zbV dgB s (by decide) d hd⟩
theorem zp7 {s : ByteArray} {d : Nat} {m e : Int} (h : zdd s d m = .inr e) : e ≠ 0 := by
 unfold zdd at h
 split at h
 ·cases h; simp
 ·split at h
  ·cases h; simp
  ·cases h
theorem zok {s : ByteArray} {b d : Nat} {k : Int} {q : Nat × Int} (h : nmR s b d k = .inr q) : q.2 ≠ 0 := by
 unfold nmR at h
 cases hn : zdd s d (gtK k) with
 | inr e => rw [hn] at h; cases h; exact zp7 hn
 | inl n => rw [hn] at h; cases h
theorem zmW {s : ByteArray} {b : Nat} {q : Nat × Int} (h : zb0 s b = .inr q) : q.2 ≠ 0 := by
 unfold zb0 at h
 split at h
 ·cases h; simp
 ·cases h
theorem zp8 {s : ByteArray} {b d : Nat} {q : Nat × Int} (h : zck s b d = .inr q) : q.2 ≠ 0 := by
 unfold zck at h
 split at h
 ·split at h
  ·cases h; simp
  ·split at h <;> cases h
 ·cases h
theorem zhH {s : ByteArray} {b d : Nat} {t : Tk} (hd : d <= s.size) (h : zck s b d = .inl t) : ∃ e : Nat, t.en = e /\ d <= e /\ e <= s.size := by
 unfold zck at h
 split at h
 ·split at h
  ·cases h
  ·split at h
   ·next hc =>
    cases h
    have h1 := zbs nmB s (by decide) d
    have h2 := zaD (s := s) (i := spN nmB s d) (by omega)
    exact ⟨_, rfl, by omega, by omega⟩
   ·cases h; exact ⟨d, rfl, Nat.le_refl _, hd⟩
 ·cases h; exact ⟨d, rfl, Nat.le_refl _, hd⟩
theorem zmX (s : ByteArray) (i : Nat) : ∀ l : List (Int × List UInt8), (∀ p ∈ l, p.1 ≠ 0 /\ 1 <= p.2.length) -> (zik s i l).1 = 0 ∨ 1 <= (zik s i l).2.length := by
 intro l
 induction l with
 | nil => intro _; exact .inl rfl
 | cons p l ih =>
  intro h
  rw [zik]
  split
  ·exact .inr (h p (List.mem_cons_self ..)).2
  ·exact ih (fun q hq => h q (List.mem_cons_of_mem _ hq))
theorem zin (s : ByteArray) (i : Nat) : (zak s i).1 = 0 ∨ 1 <= (zak s i).2.length := zmX s i sgTab (by decide)
theorem zhI {s : ByteArray} {b : Nat} {t : Tk} (hb : b <= s.size) (h : zbm s b = .inl t) : ∃ e : Nat, t.en = e /\ b < e /\ e <= s.size := by
 have h1 := zbC s b hb
 have h2 := zin s b
 unfold zbm at h
 split at h
 ·cases h
 next h0 =>
 have h3 : 1 <= (zak s b).2.length := by rcases h2 with q | q; exact absurd q h0; exact q
 split at h
 ·obtain ⟨e, a1, a2, a3⟩ := zim h1 h
  exact ⟨e, a1, by omega, a3⟩
 split at h
 ·obtain ⟨e, a1, a2, a3⟩ := zhH h1 h
  exact ⟨e, a1, by omega, a3⟩
 ·cases h
  exact ⟨_, rfl, by omega, h1⟩
theorem zkM {s : ByteArray} {b : Nat} {q : Nat × Int} (h : zbm s b = .inr q) : q.2 ≠ 0 := by
 unfold zbm at h
 split at h
 ·cases h; simp
 split at h
 ·exact zok h
 split at h
 ·exact zp8 h
 ·cases h
theorem zkN {s : ByteArray} {b : Nat} {t : Tk} (hb : b + 3 <= s.size) (h : zbQ s b = .inl t) : ∃ e : Nat, t.en = e /\ b < e /\ e <= s.size := by
 have h1 := zbH hb
 unfold zbQ at h
 split at h
 ·cases h
 split at h
 ·next h45 =>
  have h2 := zaD (s := s) (i := (ptP s (b + 3)).2.1) (by omega)
  have h3 := zbH (s := s) (a := (ptP s (b + 3)).2.1 + 1) (by omega)
  split at h
  ·cases h
  split at h
  ·next hc =>
   cases h
   have h4 := zaD (s := s) (i := (ptP s ((ptP s (b + 3)).2.1 + 1)).2.1) (by omega)
   exact ⟨_, rfl, by omega, by omega⟩
  ·cases h
 ·split at h
  ·next hc =>
   cases h
   have h4 := zaD (s := s) (i := (ptP s (b + 3)).2.1) (by omega)
   exact ⟨_, rfl, by omega, by omega⟩
  ·cases h
theorem zp9 {s : ByteArray} {b : Nat} {q : Nat × Int} (h : zbQ s b = .inr q) : q.2 ≠ 0 := by
 unfold zbQ at h
 split at h
 ·cases h; simp
 split at h
 ·split at h
  ·cases h; simp
  split at h
  ·cases h
  ·cases h; simp
 ·split at h
  ·cases h
  ·cases h; simp
theorem zkO {s : ByteArray} {b : Nat} {t : Tk} (hb : b <= s.size) (h : zcp s b = .inl t) : ∃ e : Nat, t.en = e /\ b < e /\ e <= s.size := by
 unfold zcp at h
 split at h
 ·next hp => exact zkN (zfT hb hp) h
 split at h
 ·exact zhI hb h
 split at h
 ·next hc => cases h; exact ⟨_, rfl, by omega, by omega⟩
 ·cases h
theorem zqa {s : ByteArray} {b : Nat} {q : Nat × Int} (h : zcp s b = .inr q) : q.2 ≠ 0 := by
 unfold zcp at h
 split at h
 ·exact zp9 h
 split at h
 ·exact zkM h
 split at h
 ·cases h
 ·cases h; simp
theorem zkP (s : ByteArray) (b : Nat) (q : Nat × Int) (h : zaA s b = .inr q) : q.2 ≠ 0 := by
 unfold zaA at h
 split at h
 ·exact zmW h
 split at h
 ·exact zok h
 split at h
 ·exact zmV _ _ _ _ _ _ _ h
 split at h
 ·unfold clT at h
  cases hr : zal s b with
  | inl p => rw [hr] at h; cases h
  | inr p =>
   obtain ⟨a, c⟩ := p
   rw [hr] at h
   have hne := zgL hr
   dsimp only at h
   split at h
   ·cases h; simp
   ·cases h; exact hne
 split at h
 ·exact zqa h
 ·exact zkM h
theorem zgO {s : ByteArray} {i : Nat} {x : BitVec 256} {n : Nat} (h : zal s i = .inl (x, n)) : i < n := by
 unfold zal at h
 split at h
 ·simp at h
 ·split at h
  ·split at h
   ·cases hm : zab s (s.size + 1) 0#256 ((i : Int).toNat + 2) with
    | inr pq =>
     obtain ⟨a', c'⟩ := pq
     rw [hm] at h; simp [zdL] at h
    | inl p => obtain ⟨y, m⟩ := p; have b := zaK hm; rw [hm] at h; simp only [zdL, Sum.inl.injEq, Prod.mk.injEq] at h; omega
   ·cases hm : zab s (s.size + 1) 0#256 ((i : Int).toNat + 1) with
    | inr pq =>
     obtain ⟨a', c'⟩ := pq
     rw [hm] at h; simp [zfW] at h
    | inl p => obtain ⟨y, m⟩ := p; have b := zaK hm; rw [hm] at h; simp only [zfW, Sum.inl.injEq, Prod.mk.injEq] at h; omega
  ·simp at h
theorem zf1 (s : ByteArray) (b : Nat) (t : Tk) (hb : b < s.size) (h : zaA s b = .inl t) : ∃ e : Nat, t.en = e /\ b < e /\ e <= s.size := by
 unfold zaA at h
 split at h
 ·next hh =>
  unfold zb0 at h
  split at h
  ·cases h
  ·cases h
   have h1 := (zbr (P := nmB) (s := s) (i := b) (by decide) (by unfold nmB; rw [hh]; rfl)).2
   have h2 := zbs nmB s (by decide) (b + 1)
   exact ⟨_, rfl, by omega, zbV nmB s (by decide) b (by omega)⟩
 split at h
 ·exact zim (by omega) h
 split at h
 ·next hq =>
  obtain ⟨e, a1, a2, a3⟩ := zdq s _ b (by omega) _ _ _ _ h
  exact ⟨e, a1, by omega, a3⟩
 split at h
 ·cases hr : zal s b with
  | inr p =>
   rw [hr, clT] at h
   split at h <;> cases h
  | inl p =>
   obtain ⟨x, n⟩ := p
   rw [hr] at h
   cases h
   exact ⟨n, rfl, zgO hr, zgK hr⟩
 split at h
 ·exact zkO (by omega) h
 ·exact zhI (by omega) h
theorem zio (s : ByteArray) (w : World) (hg : SG w) : Calls Tryz.prog 61 #[.string s] w fun e w' => LxP w w' (zcA (zaA s) s) e /\ Below w.heap.size w w' := by
 by_cases hs : s.size <= 65536
 ·exact zp6 s hs (fun b t hb h => zf1 s b t hb h) (fun b q h => zkP s b q h) w hg
 ·exact zkK s (by omega) w
def spT (lo hi : Nat) : List UInt8 := if hi - lo = 0 then itm lo else if hi - lo = 1 then itm lo ++ itm hi else itm lo ++ [45] ++ itm hi
theorem catL (a b : List UInt8) : (⟨a.toArray⟩ : ByteArray) ++ ⟨b.toArray⟩ = ⟨(a ++ b).toArray⟩ := by apply ByteArray.ext; simp
def itB (b : Nat) : ByteArray := ⟨(itm b).toArray⟩
theorem ziq (b : Nat) : (itB b).size <= 4 := by
 show (itm b).toArray.size <= 4
 unfold itm
 repeat' split
 all_goals simp
theorem box2 (w : World) (a b : Value) (t : TypeId) : (w.alloc (.cells #[a, b] t)).cell? ⟨w.heap.size, 0, none⟩ = some a /\ (w.alloc (.cells #[a, b] t)).cell? ⟨w.heap.size, 1, none⟩ = some b := by
 constructor <;> simp [go_sem]
theorem zgP (lo hi : Nat) (hle : lo <= hi) (hh : hi < 256) (w : World) :
  Calls Tryz.prog 127 #[.agg #[.int .i64 lo, .int .i64 hi]] w fun e w' => e = .returned (.string ⟨(spT lo hi).toArray⟩) /\ Below w.heap.size w w' := by
 obtain ⟨c0, c1⟩ := box2 w (.int .i64 lo) (.int .i64 hi) 152
 have C0 := hO c0
 have C1 := hO c1
 have HI : Hid (∀ b : Nat, b < 256 -> ∀ w, Calls Tryz.prog 151 #[.int .i64 (b : Int)] w fun e w' => e = .returned (.string (itB b)) /\ Below w.heap.size w w') := fun b hb w => zmb b hb w
 have z1 := ziq lo
 have z2 := ziq hi
 have HB := hO (zaX w (.cells #[.int .i64 lo, .int .i64 hi] 152))
 by_cases h0 : hi - lo = 0
 ·have e0 : ((hi : Int) - (lo : Int) == 0) = true := beq_iff_eq.2 (by omega)
  have HE : Hid (spT lo hi = itm lo) := (by show spT lo hi = _; unfold spT; rw [if_pos h0])
  go_enter Tryz.func127, Tryz.ntmps127
  go_wp2_with fail
  refine (HI.out lo (by omega) _).mono ?_
  rintro e w1 ⟨rfl, hb⟩
  have HR := hO (HB.out.trans (hb.mono (by simp)))
  clear hb
  go_wp2
  go_ret
  exact ⟨by rw [HE.out]; rfl, HR.out⟩
 ·have e0 : ((hi : Int) - (lo : Int) == 0) = false := bF (by omega)
  have HR : Hid (Below (w.heap.size + 1) (w.alloc (.cells #[.int .i64 lo, .int .i64 hi] 152)) (w.alloc (.cells #[.int .i64 lo, .int .i64 hi] 152))) := Below.refl _ _
  by_cases h1 : hi - lo = 1
  ·have e1 : ((hi : Int) - (lo : Int) == 1) = true := beq_iff_eq.2 (by omega)
   have HE : Hid (spT lo hi = itm lo ++ itm hi) := (by show spT lo hi = _; unfold spT; rw [if_neg h0, if_pos h1])
   go_enter Tryz.func127, Tryz.ntmps127
   go_wp2
   go_region_with ((go_at_call 151; refine (HI.out _ (by omega) _).mono ?_; rintro e w1 ⟨rfl, hb⟩; have hz1 := hb.size; (try simp at hz1); have hr2 := (show Below (w.heap.size + 1) (w.alloc (.cells #[.int .i64 lo, .int .i64 hi] 152)) w1 from (by first | exact HR.out.trans (hb.mono (by omega)) | exact HR.out.drew.trans (hb.mono (by simp)))); replace HR := (show Hid _ from hr2); have d0 := (HR.out.cell (p := ⟨w.heap.size, 0, none⟩) (by simp)).trans C0.out; have d1 := (HR.out.cell (p := ⟨w.heap.size, 1, none⟩) (by simp)).trans C1.out))
   all_goals
    go_wp2
    go_ret
    exact ⟨by rw [HE.out]; exact zfx (catL (itm lo) (itm hi)), HB.out.trans (HR.out.mono (by omega))⟩
  ·have e1 : ((hi : Int) - (lo : Int) == 1) = false := bF (by omega)
   have HE : Hid (spT lo hi = itm lo ++ [45] ++ itm hi) := (by show spT lo hi = _; unfold spT; rw [if_neg h0, if_neg h1])
   go_enter Tryz.func127, Tryz.ntmps127
   go_wp2
   go_region_with ((go_at_call 151; refine (HI.out _ (by omega) _).mono ?_; rintro e w1 ⟨rfl, hb⟩; have hz1 := hb.size; (try simp at hz1); have hr2 := (show Below (w.heap.size + 1) (w.alloc (.cells #[.int .i64 lo, .int .i64 hi] 152)) w1 from (by first | exact HR.out.trans (hb.mono (by omega)) | exact HR.out.drew.trans (hb.mono (by simp)))); replace HR := (show Hid _ from hr2); have d0 := (HR.out.cell (p := ⟨w.heap.size, 0, none⟩) (by simp)).trans C0.out; have d1 := (HR.out.cell (p := ⟨w.heap.size, 1, none⟩) (by simp)).trans C1.out))
   all_goals
    go_wp2
    go_ret
    exact ⟨by rw [HE.out]; exact zfx (by exact (congrArg (· ++ itB hi) (catL (itm lo) [45])).trans (catL (itm lo ++ [45]) (itm hi))), HB.out.trans (HR.out.mono (by omega))⟩
theorem eqW (x y : BitVec 256) : (x == y) = (wd x 0 == wd y 0 && (wd x 1 == wd y 1 && (wd x 2 == wd y 2 && wd x 3 == wd y 3))) := by
 rw [Bool.eq_iff_iff]
 simp only [Bool.and_eq_true, beq_iff_eq]
 exact ⟨fun h => by rw [h]; simp, fun ⟨a, b, c, d⟩ => zoO x y a b c d⟩
theorem eq24w (a b c d a' b' c' d' : Int) (w : World) : (Op.equalIn 10000 49 (.agg #[.int .u64 a, .int .u64 b, .int .u64 c, .int .u64 d]) (.agg #[.int .u64 a', .int .u64 b', .int .u64 c', .int .u64 d'])).run Tryz.prog w = .ok (a == a' && (b == b' && (c == c' && d == d'))) w := by
 have u3 := Tryz.underlying47
 have a3 := Tryz.isAgg47
 have z3 := Tryz.sizeOf47
 rw [show (10000 : Nat) = 9999 + 1 from rfl, Op.equalIn]
 simp only [Sem.run_bind, run_underlying Tryz.underlying49, Result.andThen_ok]
 simp only [Std.Legacy.Range.forIn_eq_forIn_range', Std.Legacy.Range.size, Nat.sub_zero, Nat.add_sub_cancel, Nat.div_one, List.range'_succ, List.range'_zero, List.forIn_cons, List.forIn_nil]
 go_simp
 by_cases h1 : a = a' <;> by_cases h2 : b = b' <;> by_cases h3 : c = c' <;> by_cases h4 : d = d' <;> simp [h1, h2, h3, h4]
theorem eq24 (x y : BitVec 256) (w : World) : (Op.equalIn 10000 49 (.agg #[.int .u64 (wd x 0), .int .u64 (wd x 1), .int .u64 (wd x 2), .int .u64 (wd x 3)]) (.agg #[.int .u64 (wd y 0), .int .u64 (wd y 1), .int .u64 (wd y 2), .int .u64 (wd y 3)])).run Tryz.prog w = .ok (x == y) w := by
 rw [eq24w, eqW]
theorem zmY (w : World) :
  Calls Tryz.prog 149 #[.agg #[.int .u64 0, .int .u64 0, .int .u64 0, .int .u64 0]] w fun e w' => e = .returned (sv (~~~ 0#256)) /\ Below w.heap.size w w' := by
 have h := zfv 0#256 w
 rw [sv, zaj, zaj, zaj, zaj] at h
 exact h
theorem zmZ (x : BitVec 256) (w : World) :
  Calls Tryz.prog 125 #[sv x] w fun e w' => e = .returned (.bool (x == ~~~ 0#256)) /\ Below w.heap.size w w' := by
 have heq := eq24
 have HR := hO (zaX w (c4 x))
 have HX := hO (Holds.new w x)
 generalize hq : ~~~ 0#256 = q
 have n0 : ∀ w, Calls Tryz.prog 149 #[.agg #[.int .u64 0, .int .u64 0, .int .u64 0, .int .u64 0]] w fun e w' => e = .returned (sv q) /\ Below w.heap.size w w' := by rw [<- hq]; exact zmY
 have N0 := hO n0
 clear n0 hq
 go_enter Tryz.func125, Tryz.ntmps125
 go_wp2
 go_region_with ((go_at_call 149; refine (N0.out _).mono ?_; rintro e w1 ⟨rfl, hb⟩; obtain ⟨l0, c0, c1, c2, c3, f0, f1, f2, f3⟩ := (by first | exact HX.out.drew.below hb (by simp) | exact HX.out.below hb (by simp)); replace HR := (show Hid _ from (by first | exact HR.out.drew.trans (hb.mono (by simp)) | exact HR.out.trans (hb.mono (by simp))))))
 all_goals
  go_wp2
  go_ret
  exact ⟨rfl, HR.out⟩
theorem zol (bs : List Int) (p : Int × Int) (h : p ∈ spL bs) : p.1 <= p.2 := by
 have key : ∀ n (bs : List Int), bs.length = n -> ∀ p ∈ spL bs, p.1 <= p.2 := fun n => by
  induction n with
  | zero => intro bs h p hp; rw [List.eq_nil_of_length_eq_zero h] at hp; simp [spL] at hp
  | succ n ih =>
   intro bs h p hp
   rcases zaV bs with rfl | ⟨m, b, rfl⟩
   ·simp at h
   ·have ihm := ih m (by simp at h; exact h)
    rw [zcO] at hp
    rcases zaV (spL m) with hs | ⟨l, ⟨lo, hi⟩, hs⟩
    ·rw [hs] at hp; simp [zcc] at hp; subst hp; exact Int.le_refl _
    ·rw [hs] at hp ihm
     by_cases e : hi + 1 = b
     ·rw [zbO _ _ _ _ e] at hp
      rcases List.mem_append.1 hp with h1 | h1
      ·exact ihm p (List.mem_append_left _ h1)
      ·simp at h1; subst h1
       have := ihm (lo, hi) (by simp)
       simp at this ⊢; omega
     ·rw [zby _ _ _ _ e] at hp
      rcases List.mem_append.1 hp with h1 | h1
      ·exact ihm p h1
      ·simp at h1; subst h1; exact Int.le_refl _
 exact key _ bs rfl p h
theorem zir (x : BitVec 256) (b : Int) (h : b ∈ bys x) : 0 <= b /\ b < 256 := zl1 x 256 b h
theorem zis (bs : List Int) (p : Int × Int) (h : p ∈ spL bs) : p.1 ∈ bs /\ p.2 ∈ bs := by
 have key : ∀ n (bs : List Int), bs.length = n -> ∀ p ∈ spL bs, p.1 ∈ bs /\ p.2 ∈ bs := fun n => by
  induction n with
  | zero => intro bs h p hp; rw [List.eq_nil_of_length_eq_zero h] at hp; simp [spL] at hp
  | succ n ih =>
   intro bs h p hp
   rcases zaV bs with rfl | ⟨m, b, rfl⟩
   ·simp at h
   ·have ihm := ih m (by simp at h; exact h)
    rw [zcO] at hp
    rcases zaV (spL m) with hs | ⟨l, ⟨lo, hi⟩, hs⟩
    ·rw [hs] at hp; simp [zcc] at hp; subst hp; simp
    ·rw [hs] at hp ihm
     have inl : ∀ q ∈ l ++ [(lo, hi)], q.1 ∈ m ++ [b] /\ q.2 ∈ m ++ [b] := fun q hq => ⟨List.mem_append_left _ (ihm q hq).1, List.mem_append_left _ (ihm q hq).2⟩
     by_cases e : hi + 1 = b
     ·rw [zbO _ _ _ _ e] at hp
      rcases List.mem_append.1 hp with h1 | h1
      ·exact inl p (List.mem_append_left _ h1)
      ·simp at h1; subst h1
       exact ⟨(inl (lo, hi) (by simp)).1, by simp⟩
     ·rw [zby _ _ _ _ e] at hp
      rcases List.mem_append.1 hp with h1 | h1
      ·exact inl p h1
      ·simp at h1; subst h1; simp
 exact key _ bs rfl p h
theorem zdD (x : BitVec 256) : (spL (bys x)).length <= 256 := Nat.le_trans (zjM _) (by rw [zoT]; exact cnt_le x)
theorem zd2 (x : BitVec 256) (p : Int × Int) (h : p ∈ spL (bys x)) : 0 <= p.1 /\ p.1 <= p.2 /\ p.2 < 256 :=
 ⟨(zir x _ (zis _ p h).1).1, zol _ p h, (zir x _ (zis _ p h).2).2⟩
def zcB (l : List (Int × Int)) : List UInt8 := l.flatMap fun p => spT p.1.toNat p.2.toNat
theorem zkQ (l : List (Int × Int)) (p : Int × Int) : zcB (l ++ [p]) = zcB l ++ spT p.1.toNat p.2.toNat := by unfold zcB; rw [List.flatMap_append]; simp
def fulB (x : BitVec 256) : Bool := x == ~~~ 0#256
def shT (x : BitVec 256) : List UInt8 := if fulB x then [91, 94, 93] else 91 :: zcB (spL (bys x)) ++ [93]
theorem zit (x : BitVec 256) (w : World) : Calls Tryz.prog 125 #[sv x] w fun e w' => e = .returned (.bool (fulB x)) /\ Below w.heap.size w w' := zmZ x w
theorem zkR (b : Nat) : (itm b).length <= 4 := by
 unfold itm
 repeat' split
 all_goals simp
theorem zkS (lo hi : Nat) : (spT lo hi).length <= 9 := by
 have h1 := zkR lo
 have h2 := zkR hi
 unfold spT
 repeat' split
 ·omega
 ·rw [List.length_append]; omega
 ·rw [List.length_append, List.length_append]; simp only [List.length_singleton]; omega
theorem zkT (p : Int × Int) (l : List (Int × Int)) : zcB (p :: l) = spT p.1.toNat p.2.toNat ++ zcB l := by unfold zcB; rw [List.flatMap_cons]
theorem zd3 (l : List (Int × Int)) : (zcB l).length <= 9 * l.length := by
 induction l with
 | nil => simp [zcB]
 | cons p l ih => have := zkS p.1.toNat p.2.toNat; rw [zkT, List.length_append, List.length_cons]; omega
theorem zdr {w w' : World} {b : Nat} {bs : List Value} (h : Lib.IsBuilder 57 5 b b bs w) (hb : Below w.heap.size w w') : Lib.IsBuilder 57 5 b b bs w' := by
 have key : ∀ p, Lib.BuilderAt 57 5 b b p bs w -> Lib.BuilderAt 57 5 b b p bs w' := fun p hp => by
  have hlt := hp.lt
  obtain ⟨hB, v, hbk, hown, hne⟩ := hp
  exact ⟨hB, v, (hb.block b hlt).trans hbk, za2 hown hb (by omega), hne⟩
 exact h.imp (key _) (key _)
theorem zkU {w w' : World} {b base : Nat} {v : Value} {n : Nat} {xs : List Value} (h : w.ownsRow base 152 2 v n xs) (hk : KeepT b w w') (hb : b < base) : w'.ownsRow base 152 2 v n xs := by
 refine ⟨h.1, h.2.imp id ?_⟩
 rintro ⟨g, cap, cur, h1, h2, h3, h4⟩
 have hlt : g < w.heap.size := (h.lt g (by rw [h1]; rfl)).2
 exact ⟨g, cap, cur, h1, h2, (hk.block g hlt (by omega) (fun c fr e => by rw [h3] at e; cases e)).trans h3, h4⟩
theorem zjn (w : World) (o : Obj) : (w.alloc o).heap.size = w.heap.size + 1 := by simp
theorem zjo {w w' : World} {base e size : Nat} {v : Value} {n : Nat} {xs : List Value} (h : w.ownsRow base e size v n xs) (hb : Below w.heap.size w w') : w'.ownsRow base e size v n xs := by
 refine h.kept (row := none) ⟨hb.os, hb.tape, hb.output, hb.size, fun k hk _ => hb.block k hk⟩ ?_
 cases h2 : v.ownBlock
 ·exact .inl rfl
 ·exact .inr (by simp)
theorem zm0 {w : World} {b : Nat} {c : UInt8} {m l : List UInt8} (h : Lib.IsBuilder 57 5 b b (Lib.byteCells (c :: m) ++ Lib.strCells ⟨l.toArray⟩) w) : Lib.IsBuilder 57 5 b b (Lib.byteCells (c :: (m ++ l))) w := by
 rw [Lib.strCells_eq, <- Lib.byteCells_append] at h; exact h
theorem zkV {w : World} {b : Nat} {m : List UInt8} (h : Lib.IsBuilder 57 5 b b (Lib.byteCells m ++ [.int .u8 93]) w) : Lib.IsBuilder 57 5 b b (Lib.byteCells (m ++ [93])) w := by
 rw [Lib.byteCells_append]; exact h
theorem zqb {SL : List (Int × Int)} {k lo hi : Nat} (h : SL.length <= 256) : (Lib.byteCells (91 :: zcB (SL.take k))).length + (⟨(spT lo hi).toArray⟩ : ByteArray).size <= 140737488355328 := by
 rw [Lib.byteCells_length, List.length_cons]
 have h1 := zd3 (SL.take k)
 have h2 := zkS lo hi
 have h3 : (SL.take k).length <= 256 := by rw [List.length_take]; omega
 show _ + (spT lo hi).toArray.size <= _
 rw [List.size_toArray]
 omega
theorem zqc {SL : List (Int × Int)} (h : SL.length <= 256) : (Lib.byteCells (91 :: zcB SL)).length + 1 <= 140737488355328 := by
 rw [Lib.byteCells_length, List.length_cons]
 have h1 := zd3 SL
 omega
theorem zqd (SL : List (Int × Int)) (k : Nat) (h : k < SL.length) (hok : ∀ p ∈ SL, 0 <= p.1 /\ p.1 <= p.2 /\ p.2 < 256) :
  ∃ lo hi : Nat, lo <= hi /\ hi < 256 /\ (SL[k]).1 = (lo : Int) /\ (SL[k]).2 = (hi : Int) /\ zcB (SL.take (k + 1)) = zcB (SL.take k) ++ spT lo hi := by
 obtain ⟨h1, h2, h3⟩ := hok _ (List.getElem_mem h)
 refine ⟨(SL[k]).1.toNat, (SL[k]).2.toNat, by omega, by omega, by omega, by omega, ?_⟩
 rw [<- zkQ, List.take_append_getElem h]
theorem zqe {w : World} {base : Nat} {g : Option Addr} {cap k : Nat} {SL : List (Int × Int)} (h : w.ownsRow base 152 2 (.slice g SL.length cap) SL.length (spc SL)) (hk : k < SL.length) :
  ∃ g', g = some ⟨g', 0, none⟩ /\ w.cell? ⟨g', k * 2, none⟩ = some (.int .i64 (SL[k]).1) /\ w.cell? ⟨g', k * 2 + 1, none⟩ = some (.int .i64 (SL[k]).2) := by
 rcases h.2 with ⟨hv, h0⟩ | ⟨g', cap', cur, hv, hr⟩
 ·omega
 ·cases hv
  exact ⟨g', rfl, (h.cellAt (k * 2) (by omega)).trans (spc_lo SL k hk), (h.cellAt (k * 2 + 1) (by omega)).trans (spc_hi SL k hk)⟩
theorem zct (x : BitVec 256) (w : World) :
  Calls Tryz.prog 101 #[sv x] w fun e w' => e = .returned (.string ⟨(shT x).toArray⟩) /\ Below w.heap.size w w' := by
 have HX := hO (Holds.new w x)
 have HB := hO (zaX w (c4 x))
 cases hf : fulB x
 ·have HE : Hid (shT x = 91 :: zcB (spL (bys x)) ++ [93]) := (by show shT x = _; unfold shT; rw [hf]; rfl)
  go_enter Tryz.func101, Tryz.ntmps101
  go_wp2_with fail
  refine (zit x _).mono ?_
  rintro e w1 ⟨rfl, hb⟩
  have HX1 := hO (HX.out.below hb (by simp))
  have HB1 := hO (HB.out.trans (hb.mono (by simp)))
  have hs1 : w.heap.size < w1.heap.size := HX1.out.lt
  have hbl := hO (Lib.fresh_isBuilder 57 5 w1)
  clear hb HX HB
  go_wp2_with fail
  refine (zbp w1.heap.size [] 91 _ hbl.out (by simp)).mono ?_
  rintro e w2 ⟨rfl, hb, hb2, hk2⟩
  have HL2 := hO hb
  have hs2 : w1.heap.size < w2.heap.size := by have := hb2.size; simp at this; omega
  have HB2 := hO ((HB1.out.alloc (by omega) _).trans (hb2.mono (by omega)))
  have HX2 := hO ((HX1.out.alloc _).below hb2 (by omega))
  clear hb hb2 hk2 hbl HB1 HX1
  obtain ⟨x0, x1, x2, x3⟩ := (⟨HX2.out.c0, HX2.out.c1, HX2.out.c2, HX2.out.c3⟩ : _ /\ _ /\ _ /\ _)
  go_wp2_with fail
  refine (zjN x _).mono ?_
  rintro e w3 ⟨v, rfl, hro, hnil, hb3⟩
  have HL3 := hO (zdr HL2.out hb3)
  have HB3 := hO (HB2.out.trans (hb3.mono (by omega)))
  have hs3 := hb3.size
  have HR := hO hro
  have hsl : ∃ g cap, v = .slice g (spL (bys x)).length cap := by
   rcases hro.2 with ⟨hv, h0⟩ | ⟨g, cap, cur, hv, _⟩
   ·exact ⟨_, _, by rw [h0]; exact hv⟩
   ·exact ⟨_, _, hv⟩
  obtain ⟨g, cap, rfl⟩ := hsl
  have HZ : Hid ((spL (bys x)).length <= 256) := (show (spL (bys x)).length <= 256 from zdD x)
  have HOK : Hid (∀ p ∈ spL (bys x), 0 <= p.1 /\ p.1 <= p.2 /\ p.2 < 256) := (fun p hp => zd2 x p hp)
  clear hro hnil hb3 HX2 x0 x1 x2 x3
  have HME : Hid (shT x = 91 :: zcB (spL (bys x)) ++ [93]) := HE
  clear HE
  generalize spL (bys x) = SL at *
  go_wp2
  go_loopw [12] (fun t wr => ∃ k : Nat, k <= SL.length /\ t = .int .i64 k /\ Hid (Lib.IsBuilder 57 5 w1.heap.size w1.heap.size (Lib.byteCells (91 :: zcB (SL.take k))) wr /\ wr.ownsRow (w2.heap.size + 1) 152 2 (.slice g SL.length cap) SL.length (spc SL) /\ Below w.heap.size w wr /\ w3.heap.size <= wr.heap.size)) (fun t _ => SL.length - (intOf t).toNat)
  case atStart => exact ⟨0, by omega, rfl, HL3.out, HR.out, HB3.out, Nat.le_refl _⟩
  case round =>
   obtain ⟨k, hk, rfl, HI⟩ := hrel
   have hz := HZ.out
   by_cases hlt : k < SL.length
   ·have hk0 : (0 : Int) <= (k : Int) := by omega
    have hk1 : (k : Int) < (SL.length : Int) := by omega
    obtain ⟨lo, hi, hle, hh, e1, e2, hmem⟩ := zqd SL k hlt HOK.out
    obtain ⟨g', rfl, c0, c1⟩ := zqe HI.out.2.1 hlt
    rw [e1] at c0
    rw [e2] at c1
    have hkl : k * 2 + 1 < 2 * SL.length := by omega
    go_wp2_with fail
    refine (zgP lo hi hle hh _).mono ?_
    rintro e w4 ⟨rfl, hb4⟩
    have hs4 := hb4.size
    simp only [zjn] at hs4
    have ha4 : Below wr.heap.size wr w4 := ((Below.refl wr.heap.size wr).alloc (Nat.le_refl _) _).trans (hb4.mono (by simp))
    have hL4 := zdr HI.out.1 ha4
    have hO4 := zjo HI.out.2.1 ha4
    have hB4 := HI.out.2.2.1.trans (ha4.mono HI.out.2.2.1.size)
    have hz4 := HI.out.2.2.2
    have HL4 := hO hL4
    have HJ := hO ((⟨hO4, hB4, (by omega : w3.heap.size <= w4.heap.size)⟩ : _ /\ _ /\ _))
    clear hb4 ha4 hL4 hO4 hB4 hz4 HI c0 c1
    go_wp2_with fail
    refine (zbT w1.heap.size _ _ _ HL4.out ?_).mono ?_
    ·exact zqb HZ.out
    rintro e w5 ⟨rfl, hb, hb5, hk5⟩
    have HL5 := hO hb
    have HK := hO ((⟨zkU HJ.out.1 hk5 (by omega), HJ.out.2.1.trans (hb5.mono (by omega)), Nat.le_trans HJ.out.2.2 hk5.size⟩ : _ /\ _ /\ _))
    clear hb hb5 hk5 HL4 HJ
    go_wp2
    go_roundw
    case rel => exact ⟨k + 1, by omega, by go_num, by rw [hmem]; exact zm0 HL5.out, HK.out.1, HK.out.2.1, HK.out.2.2⟩
    case measure => simp [intOf]; omega
   ·obtain rfl : k = SL.length := by omega
    rw [List.take_length] at HI
    go_wp2_with fail
    refine (zbp w1.heap.size _ 93 _ HI.out.1 ?_).mono ?_
    ·exact zqc HZ.out
    rintro e w5 ⟨rfl, hb, hb5, hk5⟩
    have HL5 : Hid (Lib.IsBuilder 57 5 w1.heap.size w1.heap.size (Lib.byteCells (shT x)) w5) := (by rw [HME.out]; exact zkV hb)
    have HB5 := hO (HI.out.2.2.1.trans (hb5.mono (by omega)))
    have hs5 := hk5.size
    have hs6 := HI.out.2.2.2
    clear hb hb5 hk5
    go_wp2_with fail
    refine (Tryz.Builder_String_any w1.heap.size w1.heap.size (shT x) _ HL5.out (by omega)).mono ?_
    rintro e w6 ⟨rfl, hb6⟩
    have HB6 := hO (HB5.out.trans (hb6.mono (by omega)))
    clear hb6
    go_wp2
    go_ret
    exact ⟨rfl, HB6.out⟩
 ·have HE : Hid (shT x = [91, 94, 93]) := (by show shT x = _; unfold shT; rw [hf]; rfl)
  go_enter Tryz.func101, Tryz.ntmps101
  go_wp2_with fail
  refine (zit x _).mono ?_
  rintro e w1 ⟨rfl, hb⟩
  have HB1 := hO (HB.out.trans (hb.mono (by simp)))
  clear hb
  go_wp2
  go_ret
  exact ⟨by rw [HE.out]; rfl, HB1.out⟩
abbrev tx8 (l : List UInt8) : ByteArray := ⟨l.toArray⟩
def chL (l : List UInt8) (i : Nat) : Int := match l[i]? with
 | some c => (c.toNat : Int)
 | none => -1
theorem zb2 (l : List UInt8) : (tx8 l).size = l.length := rfl
theorem zay (l : List UInt8) (i : Nat) : chr (tx8 l) i = chL l i := by
 unfold chr chL
 by_cases h : i < l.length
 ·rw [dif_pos (show i < (tx8 l).size from h), List.getElem?_eq_getElem h]
  rfl
 ·rw [dif_neg (show ¬ i < (tx8 l).size from h), List.getElem?_eq_none (by omega)]
theorem zhJ (p r : List UInt8) (j : Nat) : chL (p ++ r) (p.length + j) = chL r j := by
 unfold chL
 rw [List.getElem?_append_right (by omega), Nat.add_sub_cancel_left]
theorem at0 (p r : List UInt8) : chr (tx8 (p ++ r)) p.length = chL r 0 := by rw [zay]; exact zhJ p r 0
theorem atj (p r : List UInt8) (j : Nat) : chr (tx8 (p ++ r)) (p.length + j) = chL r j := by rw [zay]; exact zhJ p r j
theorem of8 {b : Nat} (h : b < 256) : (UInt8.ofNat b).toNat = b := by rw [UInt8.toNat_ofNat']; omega
theorem zgQ : ∀ n : Fin 16, zbj ((zb4 n.val).toNat : Int) = (n.val : Int) := by decide
theorem zjp {b : Nat} (h : zbc b = true) : b = 92 ∨ b = 93 ∨ b = 91 ∨ b = 94 ∨ b = 45 ∨ b = 37 := by
 simp [zbc] at h; omega
theorem ziu {b : Nat} (h : ¬ zbc b = true) : b ≠ 92 /\ b ≠ 93 /\ b ≠ 91 /\ b ≠ 94 /\ b ≠ 45 /\ b ≠ 37 := by
 simp [zbc] at h; omega
theorem zcm (p r : List UInt8) : zap (tx8 (p ++ (92 :: r))) p.length = zan (tx8 (p ++ (92 :: r))) p.length := by
 unfold zap
 rw [at0]
 exact if_pos rfl
theorem zds (p r : List UInt8) (c : UInt8) : chr (tx8 (p ++ (92 :: c :: r))) (p.length + 1) = (c.toNat : Int) := by rw [atj]; rfl
theorem zdE (p q : List UInt8) (b : Nat) (hb : b < 256) : zap (tx8 (p ++ (itm b ++ q))) p.length = some (b, p.length + (itm b).length) := by
 unfold itm
 split
 ·subst b; rw [List.cons_append, zcm]; unfold zan; rw [List.cons_append, zds]; exact if_pos rfl
 split
 ·subst b; rw [List.cons_append, zcm]; unfold zan; rw [List.cons_append, zds]; rfl
 split
 ·subst b; rw [List.cons_append, zcm]; unfold zan; rw [List.cons_append, zds]; rfl
 split
 ·rename_i hs
  rw [List.cons_append, zcm]; unfold zan; rw [List.cons_append, zds]
  rcases zjp hs with rfl | rfl | rfl | rfl | rfl | rfl <;> rfl
 split
 ·rename_i hs hp
  obtain ⟨s1, s2, s3, s4, s5, s6⟩ := ziu hs
  have e : chL ([UInt8.ofNat b] ++ q) 0 = (b : Int) := by show ((UInt8.ofNat b).toNat : Int) = b; rw [of8 hb]
  unfold zap; rw [at0, e, if_neg (by omega), if_neg (by rw [hp]; simp; omega)]; rfl
 ·have e2 : chL ([92, 120, zb4 (b / 16), zb4 (b % 16)] ++ q) 2 = ((zb4 (b / 16)).toNat : Int) := rfl
  have e3 : chL ([92, 120, zb4 (b / 16), zb4 (b % 16)] ++ q) 3 = ((zb4 (b % 16)).toNat : Int) := rfl
  have h2 := zgQ ⟨b / 16, by omega⟩
  have h3 := zgQ ⟨b % 16, by omega⟩
  simp only at h2 h3
  have k : za3 (tx8 (p ++ ([92, 120, zb4 (b / 16), zb4 (b % 16)] ++ q))) p.length = some (b, p.length + 4) := by
   unfold za3
   rw [atj, atj, e2, e3, h2, h3, if_pos (by omega)]
   congr 2
   omega
  rw [List.cons_append, zcm]
  unfold zan
  rw [List.cons_append, zds]
  exact k
theorem zbD (b : Nat) (hb : b < 256) (q : List UInt8) : chL (itm b ++ q) 0 ≠ 45 /\ chL (itm b ++ q) 0 ≠ 37 /\ chL (itm b ++ q) 0 ≠ 93 /\ chL (itm b ++ q) 0 ≠ 94 := by
 have h92 : ∀ r : List UInt8, chL (92 :: r) 0 = 92 := fun _ => rfl
 unfold itm
 split
 ·rw [List.cons_append, h92]; decide
 split
 ·rw [List.cons_append, h92]; decide
 split
 ·rw [List.cons_append, h92]; decide
 split
 ·rw [List.cons_append, h92]; decide
 split
 ·rename_i hs hp
  obtain ⟨s1, s2, s3, s4, s5, s6⟩ := ziu hs
  have e : chL ([UInt8.ofNat b] ++ q) 0 = (b : Int) := by show ((UInt8.ofNat b).toNat : Int) = b; rw [of8 hb]
  rw [e]; omega
 ·rw [List.cons_append, h92]; decide
theorem zkW (b : Nat) : 1 <= (itm b).length := by
 unfold itm
 repeat' split
 all_goals simp
theorem zhK (p q : List UInt8) (b : Nat) (hb : b < 256) (hq : chL q 0 ≠ 45) : zad (tx8 (p ++ (itm b ++ q))) p.length = .inl (spn b b, p.length + (itm b).length) := by
 unfold zad
 rw [at0, if_neg (zbD b hb q).2.1, zdE p q b hb]
 have e : chr (tx8 (p ++ (itm b ++ q))) (p.length + (itm b).length) = chL q 0 := by
  rw [<- List.append_assoc, <- List.length_append]; exact at0 _ q
 exact if_neg (by rw [e]; exact hq)
theorem zm1 (p q : List UInt8) (lo hi : Nat) (hlo : lo < 256) (hhi : hi < 256) (hle : lo <= hi) : zad (tx8 (p ++ (itm lo ++ (45 :: (itm hi ++ q))))) p.length = .inl (spn lo hi, p.length + (itm lo).length + 1 + (itm hi).length) := by
 unfold zad
 rw [at0, if_neg (zbD lo hlo _).2.1, zdE p _ lo hlo]
 have e : chr (tx8 (p ++ (itm lo ++ (45 :: (itm hi ++ q))))) (p.length + (itm lo).length) = 45 := by
  rw [<- List.append_assoc, <- List.length_append, at0]; rfl
 have e2 : zap (tx8 (p ++ (itm lo ++ (45 :: (itm hi ++ q))))) (p.length + (itm lo).length + 1) = some (hi, p.length + (itm lo).length + 1 + (itm hi).length) := by
  have h := zdE (p ++ itm lo ++ [45]) q hi hhi
  rw [show p ++ itm lo ++ [45] ++ (itm hi ++ q) = p ++ (itm lo ++ (45 :: (itm hi ++ q))) from by simp] at h
  have hlen : (p ++ itm lo ++ [(45 : UInt8)]).length = p.length + (itm lo).length + 1 := by simp; omega
  rw [hlen] at h
  exact h
 refine (if_pos e).trans ?_
 rw [e2]
 exact if_neg (by omega)
def unL (l : List (Int × Int)) (s : BitVec 256) : BitVec 256 := l.foldl (fun s p => s ||| spn p.1 p.2) s
theorem ziv (p : Int × Int) (l : List (Int × Int)) (s : BitVec 256) : unL (p :: l) s = unL l (s ||| spn p.1 p.2) := rfl
theorem zdF (p : Int × Int) (l : List (Int × Int)) : zcB (p :: l) = spT p.1.toNat p.2.toNat ++ zcB l := by unfold zcB; rfl
theorem zgR (l : List (Int × Int)) (hl : ∀ p ∈ l, 0 <= p.1 /\ p.1 <= p.2 /\ p.2 < 256) : chL (zcB l ++ [93]) 0 ≠ 45 /\ chL (zcB l ++ [93]) 0 ≠ 94 := by
 cases l with
 | nil => decide
 | cons p l =>
  have h := hl p (by simp)
  rw [zdF]
  unfold spT
  split
  ·rw [List.append_assoc]; have := zbD p.1.toNat (by omega) (zcB l ++ [93]); exact ⟨this.1, this.2.2.2⟩
  split
  ·rw [List.append_assoc, List.append_assoc]; have := zbD p.1.toNat (by omega) (itm p.2.toNat ++ (zcB l ++ [93])); exact ⟨this.1, this.2.2.2⟩
  ·rw [List.append_assoc, List.append_assoc, List.append_assoc]; have := zbD p.1.toNat (by omega) ([45] ++ (itm p.2.toNat ++ (zcB l ++ [93]))); exact ⟨this.1, this.2.2.2⟩
theorem zqf (lo : Nat) (h : lo + 1 < 256) (s : BitVec 256) : s ||| spn lo lo ||| spn ((lo + 1 : Nat) : Int) ((lo + 1 : Nat) : Int) = s ||| spn lo ((lo + 1 : Nat) : Int) := by
 apply BitVec.eq_of_getLsbD_eq
 intro i _
 simp only [BitVec.getLsbD_or]
 rw [zc2 _ _ (by omega), zc2 _ _ (by omega), zc2 _ _ (by omega), Bool.or_assoc]
 congr 1
 rw [Bool.eq_iff_iff]
 simp
 omega
theorem ze6 : ∀ (l : List (Int × Int)), (∀ p ∈ l, 0 <= p.1 /\ p.1 <= p.2 /\ p.2 < 256) -> ∀ (p : List UInt8) (s : BitVec 256) (f : Nat), (zcB l).length + 1 <= f →
  zab (tx8 (p ++ (zcB l ++ [93]))) f s p.length = .inl (unL l s, p.length + (zcB l).length) := by
 intro l
 induction l with
 | nil =>
  intro _ p s f hf
  obtain ⟨g, rfl⟩ : ∃ g, f = g + 1 := ⟨f - 1, by simp [zcB] at hf; omega⟩
  rw [zbv (by rw [at0]; rfl)]
  rfl
 | cons a l ih =>
  intro hl p s f hf
  have h := hl a (by simp)
  have hl' : ∀ q ∈ l, 0 <= q.1 /\ q.1 <= q.2 /\ q.2 < 256 := fun q hq => hl q (List.mem_cons_of_mem _ hq)
  have hm := zgR l hl'
  obtain ⟨g, rfl⟩ : ∃ g, f = g + 1 := ⟨f - 1, by omega⟩
  obtain ⟨lo, hlo⟩ : ∃ lo : Nat, a.1 = lo := ⟨a.1.toNat, by omega⟩
  obtain ⟨hi, hhi⟩ : ∃ hi : Nat, a.2 = hi := ⟨a.2.toNat, by omega⟩
  have i1 := zkW lo
  have i2 := zkW hi
  rw [zdF, ziv, hlo, hhi, Int.toNat_natCast, Int.toNat_natCast]
  rw [zdF, hlo, hhi, Int.toNat_natCast, Int.toNat_natCast] at hf
  unfold spT at hf ⊢
  split
  ·rename_i h0
   obtain rfl : hi = lo := by omega
   rw [if_pos h0, List.length_append] at hf
   rw [List.append_assoc, zaJ (by rw [at0]; exact (zbD hi (by omega) _).2.2.1) (zhK p _ hi (by omega) hm.1)]
   have := ih hl' (p ++ itm hi) (s ||| spn hi hi) g (by omega)
   rw [List.append_assoc, List.length_append] at this
   rw [this, List.length_append]
   congr 2
   omega
  ·rename_i h0
   rw [if_neg h0] at hf
   split
   ·rename_i h1
    obtain rfl : hi = lo + 1 := by omega
    rw [if_pos h1, List.length_append, List.length_append] at hf
    obtain ⟨g', rfl⟩ : ∃ g', g = g' + 1 := ⟨g - 1, by omega⟩
    rw [List.append_assoc, List.append_assoc, zaJ (by rw [at0]; exact (zbD lo (by omega) _).2.2.1) (zhK p _ lo (by omega) (zbD (lo + 1) (by omega) _).1)]
    have e := zhK (p ++ itm lo) (zcB l ++ [93]) (lo + 1) (by omega) hm.1
    rw [List.append_assoc, List.length_append] at e
    have e0 : ¬ chr (tx8 (p ++ (itm lo ++ (itm (lo + 1) ++ (zcB l ++ [93]))))) (p.length + (itm lo).length) = 93 := by
     rw [<- List.append_assoc, <- List.length_append, at0]; exact (zbD (lo + 1) (by omega) _).2.2.1
    rw [zaJ e0 e]
    have := ih hl' (p ++ itm lo ++ itm (lo + 1)) (s ||| spn lo lo ||| spn ((lo + 1 : Nat) : Int) ((lo + 1 : Nat) : Int)) g' (by omega)
    rw [List.append_assoc, List.append_assoc, List.length_append, List.length_append] at this
    rw [this, List.length_append, List.length_append, zqf lo (by omega)]
    congr 2
    omega
   ·rename_i h1
    rw [if_neg h1, List.length_append, List.length_append, List.length_append] at hf
    rw [show itm lo ++ [45] ++ itm hi ++ zcB l ++ [93] = itm lo ++ (45 :: (itm hi ++ (zcB l ++ [93]))) from by simp]
    rw [zaJ (by rw [at0]; exact (zbD lo (by omega) _).2.2.1) (zm1 p _ lo hi (by omega) (by omega) (by omega))]
    have hlen : (p ++ itm lo ++ [(45 : UInt8)] ++ itm hi).length = p.length + (itm lo).length + 1 + (itm hi).length := by simp; omega
    have := ih hl' (p ++ itm lo ++ [45] ++ itm hi) (s ||| spn lo hi) g (by simp at hf; omega)
    rw [show p ++ itm lo ++ [45] ++ itm hi ++ (zcB l ++ [93]) = p ++ (itm lo ++ (45 :: (itm hi ++ (zcB l ++ [93])))) from by simp, hlen] at this
    rw [this]
    congr 2
    simp
    omega
theorem zqg (l : List (Int × Int)) (hl : ∀ p ∈ l, p.2 <= 255) (s : BitVec 256) (j : Nat) : (unL l s).getLsbD j = true ↔ s.getLsbD j = true ∨ ∃ p ∈ l, p.1 <= (j : Int) /\ (j : Int) <= p.2 := by
 induction l generalizing s with
 | nil => simp [unL]
 | cons a l ih =>
  rw [ziv, ih (fun p hp => hl p (List.mem_cons_of_mem _ hp)), BitVec.getLsbD_or, zc2 _ _ (hl a (by simp))]
  simp only [Bool.or_eq_true, Bool.and_eq_true, decide_eq_true_eq, List.mem_cons, exists_eq_or_imp]
  constructor
  ·rintro ((h | h) | h)
   ·exact .inl h
   ·exact .inr (.inl h)
   ·exact .inr (.inr h)
  ·rintro (h | h | h)
   ·exact .inl (.inl h)
   ·exact .inl (.inr h)
   ·exact .inr h
theorem zkX (j : Int) : ∀ (n : Nat) (bs : List Int), bs.length = n -> ((∃ p ∈ spL bs, p.1 <= j /\ j <= p.2) ↔ j ∈ bs) := by
 intro n
 induction n with
 | zero => intro bs h; rw [List.eq_nil_of_length_eq_zero h]; simp [spL]
 | succ n ih =>
  intro bs h
  rcases zaV bs with rfl | ⟨m, b, rfl⟩
  ·simp at h
  ·have ihm := ih m (by simp at h; exact h)
   have hok := zol m
   rw [zcO]
   rcases zaV (spL m) with hs | ⟨l, ⟨lo, hi⟩, hs⟩
   ·rw [hs] at ihm ⊢
    rw [List.mem_append, <- ihm]
    simp [zcc]
    omega
   ·rw [hs] at ihm hok ⊢
    have hle := hok (lo, hi) (by simp)
    simp only at hle
    rw [List.mem_append, <- ihm]
    by_cases e : hi + 1 = b
    ·rw [zbO _ _ _ _ e]
     constructor
     ·rintro ⟨p, hp, h1, h2⟩
      rcases List.mem_append.1 hp with h3 | h3
      ·exact .inl ⟨p, List.mem_append_left _ h3, h1, h2⟩
      ·simp at h3; subst h3
       simp only at h1 h2
       by_cases hj : j <= hi
       ·exact .inl ⟨(lo, hi), by simp, h1, hj⟩
       ·exact .inr (by simp; omega)
     ·rintro (⟨p, hp, h1, h2⟩ | h1)
      ·rcases List.mem_append.1 hp with h3 | h3
       ·exact ⟨p, List.mem_append_left _ h3, h1, h2⟩
       ·simp at h3; subst h3
        exact ⟨(lo, b), by simp, h1, by simp only at h2 ⊢; omega⟩
      ·simp at h1; subst h1
       exact ⟨(lo, j), by simp, by simp only; omega, by simp only; omega⟩
    ·rw [zby _ _ _ _ e]
     constructor
     ·rintro ⟨p, hp, h1, h2⟩
      rcases List.mem_append.1 hp with h3 | h3
      ·exact .inl ⟨p, h3, h1, h2⟩
      ·simp at h3; subst h3; simp only at h1 h2; exact .inr (by simp; omega)
     ·rintro (⟨p, hp, h1, h2⟩ | h1)
      ·exact ⟨p, List.mem_append_left _ hp, h1, h2⟩
      ·simp at h1; subst h1; exact ⟨(j, j), by simp, by simp only; omega, by simp only; omega⟩
theorem zqh (x : BitVec 256) : unL (spL (bys x)) 0#256 = x := by
 apply BitVec.eq_of_getLsbD_eq
 intro j hj
 rw [Bool.eq_iff_iff, zqg _ (fun p hp => by have := zd2 x p hp; omega), zkX (j : Int) _ (bys x) rfl]
 have h := zd9 x 256 (j : Int)
 rw [show bys x = zdR x 256 from rfl, h]
 simp
 omega
def isRd (r : Rd (BitVec 256 × Nat)) (x : BitVec 256) (n : Nat) : Bool := match r with
 | .inl p => p.1 == x && p.2 == n
 | .inr _ => false
theorem zqi {r : Rd (BitVec 256 × Nat)} {x : BitVec 256} {n : Nat} (h : isRd r x n = true) : r = .inl (x, n) := by
 cases r with
 | inr q => cases h
 | inl p =>
  obtain ⟨a, b⟩ := p
  simp only [isRd, Bool.and_eq_true, beq_iff_eq] at h
  rw [h.1, h.2]
theorem zkY (x : BitVec 256) : zal (tx8 (shT x)) 0 = .inl (x, (shT x).length) := by
 unfold shT
 cases hf : fulB x
 ·rw [if_neg (by simp)]
  have hL := zd2 x
  have hlen := zdD x
  have hm := zgR _ hL
  have hml := zd3 (spL (bys x))
  have key := ze6 _ hL [91] 0#256
  rw [zqh] at key
  generalize zcB (spL (bys x)) = M at *
  have e0 : chr (tx8 (91 :: M ++ [93])) 0 = 91 := by rw [zay]; rfl
  have e1 : chr (tx8 (91 :: M ++ [93])) 1 = chL (M ++ [93]) 0 := atj [91] (M ++ [93]) 0
  have hsz : (tx8 (91 :: M ++ [93])).size = M.length + 2 := by rw [zb2]; simp
  have k := key ((tx8 (91 :: M ++ [93])).size + 1) (by rw [hsz]; omega)
  have hr : zal (tx8 (91 :: M ++ [93])) 0 = .inl (x, M.length + 2) := by
   unfold zal
   rw [if_neg (by omega), show Int.toNat 0 = 0 from rfl, if_pos e0, if_neg (by show ¬ chr _ 1 = 94; rw [e1]; exact hm.2)]
   show zfW (zab (tx8 ([91] ++ (M ++ [93]))) _ 0#256 1) = _
   rw [show zab (tx8 ([91] ++ (M ++ [93]))) ((tx8 (91 :: M ++ [93])).size + 1) 0#256 1 = .inl (x, [91].length + M.length) from k]
   show Sum.inl (x, [91].length + M.length + 1) = _
   congr 2
   simp
   omega
  rw [hr]
  congr 2
  simp
 ·rw [if_pos rfl]
  have hx : x = ~~~ 0#256 := by simpa [fulB] using hf
  rw [hx]
  exact zqi (by decide +kernel)
theorem zhL {s : ByteArray} {i a : Nat} {c : Int} (hi : i <= s.size) (h : zad s i = .inr (a, c)) : a <= s.size := by
 unfold zad at h
 split at h
 ·unfold za6 at h
  split at h
  ·simp at h
  ·simp only [Sum.inr.injEq, Prod.mk.injEq] at h; omega
 ·split at h
  ·simp only [Sum.inr.injEq, Prod.mk.injEq] at h; omega
  ·rename_i lo m hm
   split at h
   ·rename_i hc
    have hlt : m < s.size := zaD (by rw [hc]; omega)
    split at h
    ·simp only [Sum.inr.injEq, Prod.mk.injEq] at h; omega
    ·split at h
     ·simp only [Sum.inr.injEq, Prod.mk.injEq] at h; omega
     ·simp at h
   ·simp at h
theorem zdN {s : ByteArray} : ∀ {f : Nat} {x : BitVec 256} {i a : Nat} {c : Int}, i <= s.size -> zab s f x i = .inr (a, c) -> a <= s.size := by
 intro f
 induction f with
 | zero => intro x i a c hi h; simp only [zab, Sum.inr.injEq, Prod.mk.injEq] at h; omega
 | succ f ih =>
  intro x i a c hi h
  by_cases hc : chr s i = 93
  ·rw [zbv hc] at h; simp at h
  ·cases hm : zad s i with
   | inr pq =>
    obtain ⟨a', c'⟩ := pq
    rw [zbM hc hm] at h; simp only [Sum.inr.injEq, Prod.mk.injEq] at h; rw [<- h.1]; exact zhL hi hm
   | inl p => obtain ⟨y, n⟩ := p; rw [zaJ hc hm] at h; exact ih (zbU hm).2 h
theorem zkZ {s : ByteArray} {i : Int} {a : Nat} {c : Int} (h : zal s i = .inr (a, c)) : a <= s.size := by
 unfold zal at h
 split at h
 ·simp only [Sum.inr.injEq, Prod.mk.injEq] at h; omega
 ·rename_i hr
  split at h
  ·rename_i h1
   have hlt : i.toNat < s.size := zaD (by rw [h1]; omega)
   split at h
   ·rename_i h2
    have hlt2 : i.toNat + 1 < s.size := zaD (by rw [h2]; omega)
    cases hm : zab s (s.size + 1) 0#256 (i.toNat + 2) with
    | inr pq =>
     obtain ⟨a', c'⟩ := pq
     rw [hm] at h; simp only [zdL, Sum.inr.injEq, Prod.mk.injEq] at h; rw [<- h.1]; exact zdN (by omega) hm
    | inl p => rw [hm] at h; simp [zdL] at h
   ·cases hm : zab s (s.size + 1) 0#256 (i.toNat + 1) with
    | inr pq =>
     obtain ⟨a', c'⟩ := pq
     rw [hm] at h; simp only [zfW, Sum.inr.injEq, Prod.mk.injEq] at h; rw [<- h.1]; exact zdN (by omega) hm
    | inl p => rw [hm] at h; simp [zfW] at h
  ·simp only [Sum.inr.injEq, Prod.mk.injEq] at h; omega
theorem zgS {P : Int -> Bool} {s : ByteArray} (hn : P (-1) = false) {i e : Nat} (hie : i <= e) (h : ∀ k, i <= k -> k < e -> P (chr s k) = true) (he : P (chr s e) = false) : spN P s i = e := by
 obtain ⟨h1, _, h3, h4⟩ := za8 P s hn _ i rfl
 by_cases q : spN P s i < e
 ·rw [h _ h1 q] at h3; cases h3
 ·by_cases q2 : e < spN P s i
  ·rw [h4 e hie q2] at he; cases he
  ·omega
def Ag (s : ByteArray) (b : Nat) (s' : ByteArray) (b' : Nat) (m : Nat) : Prop := ∀ k, k < m -> chr s' (b' + k) = chr s (b + k)
theorem Ag.at {s s' : ByteArray} {b b' m : Nat} (h : Ag s b s' b' m) {j j' : Nat} (hb : b <= j) (hj : j < b + m) (e : j' = b' + (j - b)) : chr s' j' = chr s j := by
 have := h (j - b) (by omega)
 rw [show b + (j - b) = j from by omega] at this
 rw [e]; exact this
theorem Ag.sub {s s' : ByteArray} {b b' m : Nat} (h : Ag s b s' b' m) (d : Nat) {m2 : Nat} (hm : d + m2 <= m) : Ag s (b + d) s' (b' + d) m2 := fun k hk => by
 have := h (d + k) (by omega)
 rw [Nat.add_assoc, Nat.add_assoc]; exact this
theorem zcU {P : Int -> Bool} {s s' : ByteArray} (hn : P (-1) = false) {i i' m : Nat} (h : Ag s i s' i' m) (hs : spN P s i = i + m) (he : P (chr s' (i' + m)) = false) : spN P s' i' = i' + m := by
 obtain ⟨_, _, _, h4⟩ := za8 P s hn _ i rfl
 refine zgS hn (by omega) (fun k k1 k2 => ?_) he
 have := h (k - i') (by omega)
 rw [show i' + (k - i') = k from by omega] at this
 rw [this]
 exact h4 _ (by omega) (by omega)
theorem zhM (s : ByteArray) (i : Nat) (h : i <= s.size) : i <= zb5 s i := (zc8 h).1
theorem zeu {s s' : ByteArray} {b b' m : Nat} (h : Ag s b s' b' m) (h1 : b + m <= s.size) (h2 : b' + m <= s'.size) : s'.extract b' (b' + m) = s.extract b (b + m) := by
 apply ByteArray.ext
 apply Array.ext
 ·show (s'.extract b' (b' + m)).size = (s.extract b (b + m)).size
  rw [ByteArray.size_extract, ByteArray.size_extract]; omega
 ·intro k hk1 hk2
  have hk1' : k < (s'.extract b' (b' + m)).size := hk1
  have hk2' : k < (s.extract b (b + m)).size := hk2
  have hm : k < m := by rw [ByteArray.size_extract] at hk2'; omega
  have e1 := zed (s := s') (a := b') (b := b' + m) (k := k) (by omega) h2
  have e2 := zed (s := s) (a := b) (b := b + m) (k := k) (by omega) h1
  rw [h k hm, <- e2, zai hk1', zai hk2'] at e1
  exact (UInt8.toNat_inj.1 (Int.ofNat_inj.1 e1) : (s'.extract b' (b' + m))[k] = (s.extract b (b + m))[k])
def mvT (t : Tk) (b' m : Nat) : Tk := { t with fr := b', en := (b' + m : Nat) }
theorem zm2 {s s' : ByteArray} {i i' m c n : Nat} (ha : Ag s i s' i' m) (h : zlW s i = some (c, n)) (hn : n <= i + m) : zlW s' i' = some (c, i' + (n - i)) := by
 have h2 := zfZ h
 unfold zlW at h ⊢
 have e1 : chr s' (i' + 1) = chr s (i + 1) := by
  by_cases q : 1 < m
  ·exact ha 1 q
  ·exfalso
   split at h; cases h; omega
   split at h; cases h; omega
   split at h; cases h; omega
   split at h; cases h; omega
   split at h; cases h; omega
   cases h
 rw [e1]
 split at h
 ·next q => rw [if_pos q]; cases h; rw [show i + 2 - i = 2 from by omega]
 next q1 =>
 rw [if_neg q1]
 split at h
 ·next q => rw [if_pos q]; cases h; rw [show i + 2 - i = 2 from by omega]
 next q2 =>
 rw [if_neg q2]
 split at h
 ·next q => rw [if_pos q]; cases h; rw [show i + 2 - i = 2 from by omega]
 next q3 =>
 rw [if_neg q3]
 split at h
 ·next q => rw [if_pos q]; cases h; rw [show i + 2 - i = 2 from by omega]
 next q4 =>
 rw [if_neg q4]
 split at h
 ·next q =>
  cases h
  rw [ha 2 (by omega), ha 3 (by omega), if_pos q, show i + 4 - i = 4 from by omega]
 ·cases h
theorem zm3 (s s' : ByteArray) (q : Int) (b b' : Nat) (hq : 0 <= q) : ∀ (f f' : Nat) (out : List Int) (i i' m : Nat) (t : Tk) (e : Nat), zbF s q b f out i = .inl t -> t.en = e -> e = i + m -> Ag s i s' i' m -> m <= f' -> zbF s' q b' f' out i' = .inl { t with fr := b', en := (i' + m : Nat) } := by
 intro f
 induction f with
 | zero => intro f' out i i' m t e h; rw [zbF] at h; cases h
 | succ f ih =>
  intro f' out i i' m t e h he hm ha hf
  obtain ⟨e2, x1, x2, x3⟩ := zdq s q b hq _ _ _ _ h
  have : e2 = e := by omega
  subst this
  obtain ⟨f', rfl⟩ : ∃ g, f' = g + 1 := ⟨f' - 1, by omega⟩
  have h0 := ha 0 (by omega)
  rw [Nat.add_zero, Nat.add_zero] at h0
  rw [zbF] at h ⊢
  rw [h0]
  split at h
  ·cases h
  next h1 =>
  rw [if_neg h1]
  split at h
  ·next h2 =>
   rw [if_pos h2]
   split at h
   ·cases h
   next h3 =>
   rw [if_neg h3]
   cases h
   have : m = 1 := by
    have he : ((i + 1 : Nat) : Int) = ((i + m : Nat) : Int) := by rw [<- hm, <- he]; rfl
    omega
   subst this
   rfl
  next h2 =>
  rw [if_neg h2]
  split at h
  ·cases h
  next h3 =>
  rw [if_neg h3]
  split at h
  ·next h4 =>
   rw [if_pos h4]
   have h5 := zdq s q b hq _ _ _ _ h
   obtain ⟨e3, y1, y2, y3⟩ := h5
   have := ih f' (out ++ [chr s i]) (i + 1) (i' + 1) (m - 1) t e2 h he (by omega) (ha.sub 1 (by omega)) (by omega)
   rw [this, show i' + 1 + (m - 1) = i' + m from by omega]
  next h4 =>
  rw [if_neg h4]
  cases hx : zlW s i with
  | none => rw [hx] at h; cases h
  | some p =>
   obtain ⟨c, n⟩ := p
   rw [hx] at h
   have h5 := zfZ hx
   obtain ⟨e3, y1, y2, y3⟩ := zdq s q b hq _ _ _ _ h
   rw [zm2 ha hx (by omega)]
   have := ih f' (out ++ [(c : Int)]) n (i' + (n - i)) (m - (n - i)) t e2 h he (by omega) (by
    have h7 := ha.sub (n - i) (m2 := m - (n - i)) (by omega)
    rwa [show i + (n - i) = n from by omega] at h7) (by omega)
   show zbF s' q b' f' (out ++ [(c : Int)]) (i' + (n - i)) = _
   rw [this, show i' + (n - i) + (m - (n - i)) = i' + m from by omega]
theorem zev {s s' : ByteArray} {i i' m c n : Nat} (ha : Ag s i s' i' m) (h : zap s i = some (c, n)) (hn : n <= i + m) : zap s' i' = some (c, i' + (n - i)) := by
 have hb := zbd h
 have h0 := ha 0 (by omega)
 rw [Nat.add_zero, Nat.add_zero] at h0
 unfold zap at h ⊢
 rw [h0]
 split at h
 ·next q =>
  rw [if_pos q]
  unfold zan at h ⊢
  have hm : 2 <= n - i := by
   split at h; cases h; omega
   split at h; cases h; omega
   split at h; cases h; omega
   split at h
   ·unfold za3 at h
    split at h
    ·cases h; omega
    ·cases h
   split at h
   ·cases h; omega
   ·cases h
  rw [ha 1 (by omega)]
  split at h
  ·next q => rw [if_pos q]; cases h; rw [show i + 2 - i = 2 from by omega]
  next q1 =>
  rw [if_neg q1]
  split at h
  ·next q => rw [if_pos q]; cases h; rw [show i + 2 - i = 2 from by omega]
  next q2 =>
  rw [if_neg q2]
  split at h
  ·next q => rw [if_pos q]; cases h; rw [show i + 2 - i = 2 from by omega]
  next q3 =>
  rw [if_neg q3]
  split at h
  ·next q =>
   rw [if_pos q]
   unfold za3 at h ⊢
   split at h
   ·next q5 =>
    cases h
    rw [ha 2 (by omega), ha 3 (by omega), if_pos q5, show i + 4 - i = 4 from by omega]
   ·cases h
  next q4 =>
  rw [if_neg q4]
  split at h
  ·next q5 => rw [if_pos q5]; cases h; rw [show i + 2 - i = 2 from by omega]
  ·cases h
 ·next q =>
  rw [if_neg q]
  split at h
  ·cases h
  ·next q2 => rw [if_neg q2]; cases h; rw [show i + 1 - i = 1 from by omega]
theorem zhN {s s' : ByteArray} {i i' m n : Nat} {y : BitVec 256} (ha : Ag s i s' i' m) (h : zad s i = .inl (y, n)) (hn : n < i + m) : zad s' i' = .inl (y, i' + (n - i)) := by
 have hb := zbU h
 have h0 := ha 0 (by omega)
 rw [Nat.add_zero, Nat.add_zero] at h0
 unfold zad at h ⊢
 rw [h0]
 split at h
 ·next q =>
  rw [if_pos q]
  unfold za6 at h ⊢
  split at h
  ·next q2 =>
   cases h
   have e1 := ha 1 (by omega)
   have hlt : i' + 1 < s'.size := zaD (by rw [e1, zai q2.1]; omega)
   rw [e1, if_pos ⟨hlt, q2.2⟩, show i + 2 - i = 2 from by omega]
  ·cases h
 ·next q =>
  rw [if_neg q]
  cases hi : zap s i with
  | none => rw [hi] at h; cases h
  | some p =>
   obtain ⟨lo, n1⟩ := p
   rw [hi] at h
   have hb1 := zbd hi
   dsimp only at h
   split at h
   ·next q45 =>
    cases hj : zap s (n1 + 1) with
    | none => rw [hj] at h; cases h
    | some p =>
     obtain ⟨hi2, e⟩ := p
     rw [hj] at h
     dsimp only at h
     have hb2 := zbd hj
     split at h
     ·cases h
     ·next q6 =>
      cases h
      rw [zev ha hi (by omega)]
      dsimp only
      rw [ha.at (j := n1) (by omega) (by omega) rfl, if_pos q45]
      have := zev (i' := i' + (n1 - i) + 1) (m := i + m - (n1 + 1)) (by
       have h7 := ha.sub (n1 + 1 - i) (m2 := i + m - (n1 + 1)) (by omega)
       rwa [show i + (n1 + 1 - i) = n1 + 1 from by omega, show i' + (n1 + 1 - i) = i' + (n1 - i) + 1 from by omega] at h7) hj (by omega)
      rw [this]
      dsimp only
      rw [if_neg q6, show i' + (n1 - i) + 1 + (n - (n1 + 1)) = i' + (n - i) from by omega]
   ·next q45 =>
    cases h
    rw [zev ha hi (by omega)]
    dsimp only
    rw [ha.at (j := n) (by omega) (by omega) rfl, if_neg q45]
theorem zdO (s s' : ByteArray) : ∀ (f f' : Nat) (x y : BitVec 256) (i i' m n : Nat), zab s f x i = .inl (y, n) -> Ag s i s' i' m -> n < i + m -> n - i < f' -> zab s' f' x i' = .inl (y, i' + (n - i)) := by
 intro f
 induction f with
 | zero => intro f' x y i i' m n h; rw [zab] at h; cases h
 | succ f ih =>
  intro f' x y i i' m n h ha hn hf
  have hok := zaK h
  obtain ⟨f', rfl⟩ : ∃ g, f' = g + 1 := ⟨f' - 1, by omega⟩
  have h0 := ha 0 (by omega)
  rw [Nat.add_zero, Nat.add_zero] at h0
  rw [zab] at h ⊢
  rw [h0]
  split at h
  ·next q => cases h; rw [if_pos q, Nat.sub_self, Nat.add_zero]
  ·next q =>
   rw [if_neg q]
   cases hm : zad s i with
   | inr p => obtain ⟨a, c⟩ := p; rw [hm] at h; cases h
   | inl p =>
    obtain ⟨z, k⟩ := p
    rw [hm] at h
    dsimp only at h
    have hb := zbU hm
    have hok2 := zaK h
    rw [zhN ha hm (by omega)]
    dsimp only
    have := ih f' (x ||| z) y k (i' + (k - i)) (i + m - k) n h (by
     have h7 := ha.sub (k - i) (m2 := i + m - k) (by omega)
     rwa [show i + (k - i) = k from by omega] at h7) (by omega) (by omega)
    rw [this, show i' + (k - i) + (n - k) = i' + (n - i) from by omega]
def sgC (c0 c1 : Int) : Int × List UInt8 :=
 if c0 = 37 then (if c1 = 101 then (29, [37, 101]) else if c1 = 102 then (30, [37, 102]) else (0, []))
 else if c0 = 94 then (if c1 = 43 then (14, [94, 43]) else if c1 = 45 then (15, [94, 45]) else (13, [94]))
 else if c0 = 60 then (if c1 = 45 then (6, [60, 45]) else (0, []))
 else if c0 = 45 then (if c1 = 62 then (27, [45, 62]) else (0, []))
 else if c0 = 47 then (7, [47])
 else if c0 = 38 then (8, [38])
 else if c0 = 33 then (9, [33])
 else if c0 = 63 then (10, [63])
 else if c0 = 42 then (11, [42])
 else if c0 = 43 then (12, [43])
 else if c0 = 40 then (16, [40])
 else if c0 = 41 then (17, [41])
 else if c0 = 46 then (18, [46])
 else if c0 = 123 then (if c1 = 58 then (21, [123, 58]) else if c1 = 124 then (23, [123, 124]) else if c1 = 126 then (25, [123, 126]) else (19, [123]))
 else if c0 = 58 then (if c1 = 125 then (22, [58, 125]) else (0, []))
 else if c0 = 124 then (if c1 = 125 then (24, [124, 125]) else (0, []))
 else if c0 = 126 then (if c1 = 125 then (26, [126, 125]) else (0, []))
 else if c0 = 125 then (20, [125]) else (0, [])
def pfC (c0 c1 : Int) : List UInt8 -> Bool
 | [] => true
 | [x] => c0 == (x.toNat : Int)
 | x :: y :: _ => c0 == (x.toNat : Int) && c1 == (y.toNat : Int)
def zc1 (c0 c1 : Int) : List (Int × List UInt8) -> Int × List UInt8
 | [] => (0, [])
 | p :: l => if pfC c0 c1 p.2 = true then p else zc1 c0 c1 l
theorem pfx_C (s : ByteArray) (b : Nat) (l : List UInt8) (h : l.length <= 2) : pfx s b l = pfC (chr s b) (chr s (b + 1)) l := by
 match l, h with
 | [], _ => rfl
 | [x], _ => show (chr s b == (x.toNat : Int) && true) = _; rw [Bool.and_true]; rfl
 | [x, y], _ => show (chr s b == (x.toNat : Int) && (chr s (b + 1) == (y.toNat : Int) && true)) = _; rw [Bool.and_true]; rfl
theorem sgGo_C (s : ByteArray) (b : Nat) : ∀ l : List (Int × List UInt8), (∀ p ∈ l, p.2.length <= 2) -> zik s b l = zc1 (chr s b) (chr s (b + 1)) l := by
 intro l
 induction l with
 | nil => intro _; rfl
 | cons p l ih =>
  intro h
  rw [zik, zc1, pfx_C s b p.2 (h p (List.mem_cons_self ..)), ih (fun q hq => h q (List.mem_cons_of_mem _ hq))]
theorem ziw (c0 c1 : Int) : zc1 c0 c1 sgTab = sgC c0 c1 := by
 unfold sgC
 by_cases h37 : c0 = 37
 ·subst h37; simp [sgTab, zc1, pfC]
  try (by_cases a1 : c1 = 101 <;> by_cases a2 : c1 = 102 <;> by_cases a3 : c1 = 43 <;> by_cases a4 : c1 = 45 <;> by_cases a5 : c1 = 62 <;> by_cases a6 : c1 = 58 <;> by_cases a7 : c1 = 124 <;> by_cases a8 : c1 = 126 <;> by_cases a9 : c1 = 125 <;> simp [*])
 by_cases h94 : c0 = 94
 ·subst h94; simp [sgTab, zc1, pfC]
  try (by_cases a1 : c1 = 101 <;> by_cases a2 : c1 = 102 <;> by_cases a3 : c1 = 43 <;> by_cases a4 : c1 = 45 <;> by_cases a5 : c1 = 62 <;> by_cases a6 : c1 = 58 <;> by_cases a7 : c1 = 124 <;> by_cases a8 : c1 = 126 <;> by_cases a9 : c1 = 125 <;> simp [*])
 by_cases h60 : c0 = 60
 ·subst h60; simp [sgTab, zc1, pfC]
  try (by_cases a1 : c1 = 101 <;> by_cases a2 : c1 = 102 <;> by_cases a3 : c1 = 43 <;> by_cases a4 : c1 = 45 <;> by_cases a5 : c1 = 62 <;> by_cases a6 : c1 = 58 <;> by_cases a7 : c1 = 124 <;> by_cases a8 : c1 = 126 <;> by_cases a9 : c1 = 125 <;> simp [*])
 by_cases h45 : c0 = 45
 ·subst h45; simp [sgTab, zc1, pfC]
  try (by_cases a1 : c1 = 101 <;> by_cases a2 : c1 = 102 <;> by_cases a3 : c1 = 43 <;> by_cases a4 : c1 = 45 <;> by_cases a5 : c1 = 62 <;> by_cases a6 : c1 = 58 <;> by_cases a7 : c1 = 124 <;> by_cases a8 : c1 = 126 <;> by_cases a9 : c1 = 125 <;> simp [*])
 by_cases h47 : c0 = 47
 ·subst h47; simp [sgTab, zc1, pfC]
  try (by_cases a1 : c1 = 101 <;> by_cases a2 : c1 = 102 <;> by_cases a3 : c1 = 43 <;> by_cases a4 : c1 = 45 <;> by_cases a5 : c1 = 62 <;> by_cases a6 : c1 = 58 <;> by_cases a7 : c1 = 124 <;> by_cases a8 : c1 = 126 <;> by_cases a9 : c1 = 125 <;> simp [*])
 by_cases h38 : c0 = 38
 ·subst h38; simp [sgTab, zc1, pfC]
  try (by_cases a1 : c1 = 101 <;> by_cases a2 : c1 = 102 <;> by_cases a3 : c1 = 43 <;> by_cases a4 : c1 = 45 <;> by_cases a5 : c1 = 62 <;> by_cases a6 : c1 = 58 <;> by_cases a7 : c1 = 124 <;> by_cases a8 : c1 = 126 <;> by_cases a9 : c1 = 125 <;> simp [*])
 by_cases h33 : c0 = 33
 ·subst h33; simp [sgTab, zc1, pfC]
  try (by_cases a1 : c1 = 101 <;> by_cases a2 : c1 = 102 <;> by_cases a3 : c1 = 43 <;> by_cases a4 : c1 = 45 <;> by_cases a5 : c1 = 62 <;> by_cases a6 : c1 = 58 <;> by_cases a7 : c1 = 124 <;> by_cases a8 : c1 = 126 <;> by_cases a9 : c1 = 125 <;> simp [*])
 by_cases h63 : c0 = 63
 ·subst h63; simp [sgTab, zc1, pfC]
  try (by_cases a1 : c1 = 101 <;> by_cases a2 : c1 = 102 <;> by_cases a3 : c1 = 43 <;> by_cases a4 : c1 = 45 <;> by_cases a5 : c1 = 62 <;> by_cases a6 : c1 = 58 <;> by_cases a7 : c1 = 124 <;> by_cases a8 : c1 = 126 <;> by_cases a9 : c1 = 125 <;> simp [*])
 by_cases h42 : c0 = 42
 ·subst h42; simp [sgTab, zc1, pfC]
  try (by_cases a1 : c1 = 101 <;> by_cases a2 : c1 = 102 <;> by_cases a3 : c1 = 43 <;> by_cases a4 : c1 = 45 <;> by_cases a5 : c1 = 62 <;> by_cases a6 : c1 = 58 <;> by_cases a7 : c1 = 124 <;> by_cases a8 : c1 = 126 <;> by_cases a9 : c1 = 125 <;> simp [*])
 by_cases h43 : c0 = 43
 ·subst h43; simp [sgTab, zc1, pfC]
  try (by_cases a1 : c1 = 101 <;> by_cases a2 : c1 = 102 <;> by_cases a3 : c1 = 43 <;> by_cases a4 : c1 = 45 <;> by_cases a5 : c1 = 62 <;> by_cases a6 : c1 = 58 <;> by_cases a7 : c1 = 124 <;> by_cases a8 : c1 = 126 <;> by_cases a9 : c1 = 125 <;> simp [*])
 by_cases h40 : c0 = 40
 ·subst h40; simp [sgTab, zc1, pfC]
  try (by_cases a1 : c1 = 101 <;> by_cases a2 : c1 = 102 <;> by_cases a3 : c1 = 43 <;> by_cases a4 : c1 = 45 <;> by_cases a5 : c1 = 62 <;> by_cases a6 : c1 = 58 <;> by_cases a7 : c1 = 124 <;> by_cases a8 : c1 = 126 <;> by_cases a9 : c1 = 125 <;> simp [*])
 by_cases h41 : c0 = 41
 ·subst h41; simp [sgTab, zc1, pfC]
  try (by_cases a1 : c1 = 101 <;> by_cases a2 : c1 = 102 <;> by_cases a3 : c1 = 43 <;> by_cases a4 : c1 = 45 <;> by_cases a5 : c1 = 62 <;> by_cases a6 : c1 = 58 <;> by_cases a7 : c1 = 124 <;> by_cases a8 : c1 = 126 <;> by_cases a9 : c1 = 125 <;> simp [*])
 by_cases h46 : c0 = 46
 ·subst h46; simp [sgTab, zc1, pfC]
  try (by_cases a1 : c1 = 101 <;> by_cases a2 : c1 = 102 <;> by_cases a3 : c1 = 43 <;> by_cases a4 : c1 = 45 <;> by_cases a5 : c1 = 62 <;> by_cases a6 : c1 = 58 <;> by_cases a7 : c1 = 124 <;> by_cases a8 : c1 = 126 <;> by_cases a9 : c1 = 125 <;> simp [*])
 by_cases h123 : c0 = 123
 ·subst h123; simp [sgTab, zc1, pfC]
  try (by_cases a1 : c1 = 101 <;> by_cases a2 : c1 = 102 <;> by_cases a3 : c1 = 43 <;> by_cases a4 : c1 = 45 <;> by_cases a5 : c1 = 62 <;> by_cases a6 : c1 = 58 <;> by_cases a7 : c1 = 124 <;> by_cases a8 : c1 = 126 <;> by_cases a9 : c1 = 125 <;> simp [*])
 by_cases h58 : c0 = 58
 ·subst h58; simp [sgTab, zc1, pfC]
  try (by_cases a1 : c1 = 101 <;> by_cases a2 : c1 = 102 <;> by_cases a3 : c1 = 43 <;> by_cases a4 : c1 = 45 <;> by_cases a5 : c1 = 62 <;> by_cases a6 : c1 = 58 <;> by_cases a7 : c1 = 124 <;> by_cases a8 : c1 = 126 <;> by_cases a9 : c1 = 125 <;> simp [*])
 by_cases h124 : c0 = 124
 ·subst h124; simp [sgTab, zc1, pfC]
  try (by_cases a1 : c1 = 101 <;> by_cases a2 : c1 = 102 <;> by_cases a3 : c1 = 43 <;> by_cases a4 : c1 = 45 <;> by_cases a5 : c1 = 62 <;> by_cases a6 : c1 = 58 <;> by_cases a7 : c1 = 124 <;> by_cases a8 : c1 = 126 <;> by_cases a9 : c1 = 125 <;> simp [*])
 by_cases h126 : c0 = 126
 ·subst h126; simp [sgTab, zc1, pfC]
  try (by_cases a1 : c1 = 101 <;> by_cases a2 : c1 = 102 <;> by_cases a3 : c1 = 43 <;> by_cases a4 : c1 = 45 <;> by_cases a5 : c1 = 62 <;> by_cases a6 : c1 = 58 <;> by_cases a7 : c1 = 124 <;> by_cases a8 : c1 = 126 <;> by_cases a9 : c1 = 125 <;> simp [*])
 by_cases h125 : c0 = 125
 ·subst h125; simp [sgTab, zc1, pfC]
  try (by_cases a1 : c1 = 101 <;> by_cases a2 : c1 = 102 <;> by_cases a3 : c1 = 43 <;> by_cases a4 : c1 = 45 <;> by_cases a5 : c1 = 62 <;> by_cases a6 : c1 = 58 <;> by_cases a7 : c1 = 124 <;> by_cases a8 : c1 = 126 <;> by_cases a9 : c1 = 125 <;> simp [*])
 simp [sgTab, zc1, pfC, *]
theorem za9 (s : ByteArray) (b : Nat) : zak s b = sgC (chr s b) (chr s (b + 1)) := by
 rw [<- ziw]
 exact sgGo_C s b sgTab (by decide)
def zdU (c : Int) : Bool := !(nmB c) && !(c == 58) && !(c == 123) && !(c == 124) && !(c == 126)
def Fol (s : ByteArray) (e : Nat) (s' : ByteArray) (e' : Nat) : Prop :=
 zdU (chr s' e') = true ∨ (chr s' e' = chr s e /\ (hdB (chr s e) = true -> ∃ r, spN nmB s e = e + r /\ spN nmB s' e' = e' + r /\ (chr s' (e' + r) = 58 -> chr s (e + r) = 58)))
theorem zbR {c : Int} (h : zdU c = true) : nmB c = false /\ c ≠ 58 /\ c ≠ 123 /\ c ≠ 124 /\ c ≠ 126 := by
 unfold zdU at h
 simp only [Bool.and_eq_true, Bool.not_eq_true', beq_eq_false_iff_ne] at h
 exact ⟨h.1.1.1.1, h.1.1.1.2, h.1.1.2, h.1.2, h.2⟩
theorem zqj {c : Int} (h : nmB c = false) : dgB c = false /\ hdB c = false := by
 unfold nmB at h
 rw [Bool.or_eq_false_iff] at h
 exact ⟨h.2, h.1⟩
theorem Fol.nm {s s' : ByteArray} {e e' : Nat} (h : Fol s e s' e') (q : nmB (chr s e) = false) : nmB (chr s' e') = false := by
 rcases h with h | ⟨h, _⟩
 ·exact (zbR h).1
 ·rw [h]; exact q
theorem Fol.dg {s s' : ByteArray} {e e' : Nat} (h : Fol s e s' e') (q : dgB (chr s e) = false) : dgB (chr s' e') = false := by
 rcases h with h | ⟨h, _⟩
 ·exact (zqj (zbR h).1).1
 ·rw [h]; exact q
theorem Ag.in {s s' : ByteArray} {b b' m : Nat} (h : Ag s b s' b' m) (hm : 1 <= m) (hs : b + m <= s.size) : b' + m <= s'.size := by
 have h1 := h (m - 1) (by omega)
 have h2 := zai (s := s) (i := b + (m - 1)) (by omega)
 have := zaD (s := s') (i := b' + (m - 1)) (by rw [h1, h2]; omega)
 omega
theorem zf2 {s s' : ByteArray} {d d' m : Nat} {base : Int} (ha : Ag s d s' d' m) : ∀ k, k <= m -> zbn s' d' base k = zbn s d base k := by
 intro k
 induction k with
 | zero => intro _; rfl
 | succ k ih => intro hk; rw [zbn, zbn, ih (by omega), ha k (by omega)]
theorem zm4 {s s' : ByteArray} {d d' m : Nat} {M n : Int} (h : zdd s d M = .inl n) (hm : spN dgB s d = d + m) (ha : Ag s d s' d' m) (hf : dgB (chr s' (d' + m)) = false) : zdd s' d' M = .inl n /\ spN dgB s' d' = d' + m := by
 have h1 := zcU (P := dgB) (by decide) ha hm hf
 have h2 := zkL h
 have h0 := ha 0 (by omega)
 rw [Nat.add_zero, Nat.add_zero] at h0
 refine ⟨?_, h1⟩
 unfold zdd at h ⊢
 rw [h1, show d' + m - d' = m from by omega, h0, zf2 ha m (Nat.le_refl _)]
 rw [hm, show d + m - d = m from by omega] at h
 exact h
theorem zhO {s s' : ByteArray} {b b' d d' m : Nat} {k : Int} {t : Tk} (h : nmR s b d k = .inl t) (hm : spN dgB s d = d + m) (ha : Ag s d s' d' m) (hf : dgB (chr s' (d' + m)) = false) : nmR s' b' d' k = .inl { t with fr := b', en := (d' + m : Nat) } := by
 unfold nmR at h ⊢
 cases hn : zdd s d (gtK k) with
 | inr e => rw [hn] at h; cases h
 | inl n =>
  obtain ⟨h1, h2⟩ := zm4 hn hm ha hf
  rw [hn] at h
  cases h
  rw [h1, h2]
theorem zk0 {s s' : ByteArray} {b b' m : Nat} {t : Tk} (h : zb0 s b = .inl t) (hm : spN nmB s b = b + m) (h1 : 1 <= m) (hs : b + m <= s.size) (ha : Ag s b s' b' m) (hf : nmB (chr s' (b' + m)) = false) : zb0 s' b' = .inl (mvT t b' m) := by
 have h2 := zcU (P := nmB) (by decide) ha hm hf
 have h3 := zeu ha hs (ha.in h1 hs)
 unfold zb0 at h ⊢
 rw [hm, show b + m - b = m from by omega] at h
 rw [h2, show b' + m - b' = m from by omega, h3]
 split at h
 ·cases h
 ·next q => cases h; rw [if_neg q]; rfl
theorem zhP {s s' : ByteArray} {a a' m : Nat} (h : (ptP s a).2.2 = true) (hm : (ptP s a).2.1 = a + m) (ha : Ag s a s' a' (m + 1)) : ptP s' a' = ((ptP s a).1, a' + m, true) := by
 have hst := (za8 hxB s (by decide) _ a rfl).2.2.1
 have hge := zbs hxB s (by decide) a
 unfold ptP at h hm ⊢
 split at h
 ·cases h
 next q =>
 rw [if_neg q] at hm
 dsimp only at h hm
 rw [hm] at hst q h
 have h1 : spN hxB s' a' = a' + m := zcU (P := hxB) (by decide) (fun k hk => ha k (by omega)) hm (by rw [ha m (by omega)]; exact hst)
 rw [h1, hm, show a' + m - a' = m from by omega, show a + m - a = m from by omega, if_neg (by omega), if_neg (by omega), zf2 (m := m) (fun k hk => ha k (by omega)) m (Nat.le_refl _)]
 rw [show a + m - a = m from by omega] at h
 rw [h]
theorem zm5 {s s' : ByteArray} {b b' m : Nat} {t : Tk} (hb : b + 3 <= s.size) (h : zbQ s b = .inl t) (he : t.en = (b + m : Nat)) (ha : Ag s b s' b' m) : zbQ s' b' = .inl (mvT t b' m) := by
 have h1 := zbH hb
 unfold zbQ at h ⊢
 split at h
 ·cases h
 next q1 =>
 have q1 : (ptP s (b + 3)).2.2 = true := by cases hq : (ptP s (b + 3)).2.2; exact absurd hq q1; rfl
 split at h
 ·next h45 =>
  have h2 := zaD (s := s) (i := (ptP s (b + 3)).2.1) (by omega)
  have h3 := zbH (s := s) (a := (ptP s (b + 3)).2.1 + 1) (by omega)
  split at h
  ·cases h
  next q2 =>
  have q3 : (ptP s ((ptP s (b + 3)).2.1 + 1)).2.2 = true := by cases hq : (ptP s ((ptP s (b + 3)).2.1 + 1)).2.2; exact absurd (.inl hq) q2; rfl
  split at h
  ·next hc =>
   cases h
   dsimp only at he
   have he : (ptP s ((ptP s (b + 3)).2.1 + 1)).2.1 + 1 = b + m := by omega
   have hA := zhP (s' := s') (a' := b' + 3) (m := (ptP s (b + 3)).2.1 - (b + 3)) q1 (by omega) (by
    exact ha.sub 3 (by omega))
   have hB := zhP (s' := s') (a' := b' + ((ptP s (b + 3)).2.1 + 1 - b)) (m := (ptP s ((ptP s (b + 3)).2.1 + 1)).2.1 - ((ptP s (b + 3)).2.1 + 1)) q3 (by omega) (by
    have h7 := ha.sub ((ptP s (b + 3)).2.1 + 1 - b) (m2 := (ptP s ((ptP s (b + 3)).2.1 + 1)).2.1 - ((ptP s (b + 3)).2.1 + 1) + 1) (by omega)
    rwa [show b + ((ptP s (b + 3)).2.1 + 1 - b) = (ptP s (b + 3)).2.1 + 1 from by omega] at h7)
   have e1 : b' + 3 + ((ptP s (b + 3)).2.1 - (b + 3)) = b' + ((ptP s (b + 3)).2.1 - b) := by omega
   have e2 : b' + ((ptP s (b + 3)).2.1 - b) + 1 = b' + ((ptP s (b + 3)).2.1 + 1 - b) := by omega
   rw [hA]
   dsimp only
   rw [e1, e2, hB]
   dsimp only
   rw [if_neg (by decide), ha.at (j := (ptP s (b + 3)).2.1) (by omega) (by omega) rfl, if_pos h45, if_neg (by rw [q3] at q2; simpa using q2)]
   rw [ha.at (j := (ptP s ((ptP s (b + 3)).2.1 + 1)).2.1) (by omega) (by omega) (by omega), if_pos hc]
   unfold mvT
   congr 3
   omega
  ·cases h
 ·next h45 =>
  split at h
  ·next hc =>
   cases h
   dsimp only at he
   have h4 := zaD (s := s) (i := (ptP s (b + 3)).2.1) (by omega)
   have he : (ptP s (b + 3)).2.1 + 1 = b + m := by omega
   have hA := zhP (s' := s') (a' := b' + 3) (m := (ptP s (b + 3)).2.1 - (b + 3)) q1 (by omega) (ha.sub 3 (by omega))
   have e1 : b' + 3 + ((ptP s (b + 3)).2.1 - (b + 3)) = b' + ((ptP s (b + 3)).2.1 - b) := by omega
   rw [hA]
   dsimp only
   rw [e1, if_neg (by decide), ha.at (j := (ptP s (b + 3)).2.1) (by omega) (by omega) rfl, if_neg h45, if_pos hc]
   unfold mvT
   congr 3
   omega
  ·cases h
end Go.Proofs.YtnpifgcgjgddoaaGreatDoor
