/- DERIVED. Walks: Show, by the program. -/
import Derived.Test.YtlcmlipldkpliaaShowS
import Derived.Test.YtlcmlipldkpliaaSmallB
namespace Go.Proofs.Ytlcmlipldkpliaa
open Go.RowKit

theorem spL_ok (bs : List Int) (p : Int × Int) (h : p ∈ spL bs) : p.1 ≤ p.2 := by
  have key : ∀ n (bs : List Int), bs.length = n → ∀ p ∈ spL bs, p.1 ≤ p.2 := fun n => by
    induction n with
    | zero => intro bs h p hp; rw [List.eq_nil_of_length_eq_zero h] at hp; simp [spL] at hp
    | succ n ih =>
      intro bs h p hp
      rcases snoc_cases bs with rfl | ⟨m, b, rfl⟩
      · simp at h
      · have ihm := ih m (by simp at h; exact h)
        rw [spL_snoc] at hp
        rcases snoc_cases (spL m) with hs | ⟨l, ⟨lo, hi⟩, hs⟩
        · rw [hs] at hp; simp [spStep] at hp; subst hp; exact Int.le_refl _
        · rw [hs] at hp ihm
          by_cases e : hi + 1 = b
          · rw [spStep_hit _ _ _ _ e] at hp
            rcases List.mem_append.1 hp with h1 | h1
            · exact ihm p (List.mem_append_left _ h1)
            · simp at h1; subst h1
              have := ihm (lo, hi) (by simp)
              simp at this ⊢; omega
          · rw [spStep_miss _ _ _ _ e] at hp
            rcases List.mem_append.1 hp with h1 | h1
            · exact ihm p h1
            · simp at h1; subst h1; exact Int.le_refl _
  exact key _ bs rfl p h

theorem bys_byte (x : BitVec 256) (b : Int) (h : b ∈ bys x) : 0 ≤ b ∧ b < 256 := bysTo_bd x 256 b h
theorem spL_from (bs : List Int) (p : Int × Int) (h : p ∈ spL bs) : p.1 ∈ bs ∧ p.2 ∈ bs := by
  have key : ∀ n (bs : List Int), bs.length = n → ∀ p ∈ spL bs, p.1 ∈ bs ∧ p.2 ∈ bs := fun n => by
    induction n with
    | zero => intro bs h p hp; rw [List.eq_nil_of_length_eq_zero h] at hp; simp [spL] at hp
    | succ n ih =>
      intro bs h p hp
      rcases snoc_cases bs with rfl | ⟨m, b, rfl⟩
      · simp at h
      · have ihm := ih m (by simp at h; exact h)
        rw [spL_snoc] at hp
        rcases snoc_cases (spL m) with hs | ⟨l, ⟨lo, hi⟩, hs⟩
        · rw [hs] at hp; simp [spStep] at hp; subst hp; simp
        · rw [hs] at hp ihm
          have inl : ∀ q ∈ l ++ [(lo, hi)], q.1 ∈ m ++ [b] ∧ q.2 ∈ m ++ [b] := fun q hq => ⟨List.mem_append_left _ (ihm q hq).1, List.mem_append_left _ (ihm q hq).2⟩
          by_cases e : hi + 1 = b
          · rw [spStep_hit _ _ _ _ e] at hp
            rcases List.mem_append.1 hp with h1 | h1
            · exact inl p (List.mem_append_left _ h1)
            · simp at h1; subst h1
              exact ⟨(inl (lo, hi) (by simp)).1, by simp⟩
          · rw [spStep_miss _ _ _ _ e] at hp
            rcases List.mem_append.1 hp with h1 | h1
            · exact inl p h1
            · simp at h1; subst h1; simp
  exact key _ bs rfl p h
theorem spL_len256 (x : BitVec 256) : (spL (bys x)).length ≤ 256 := Nat.le_trans (spL_len _) (by rw [bys_len]; exact cnt_le x)
theorem spL_byte (x : BitVec 256) (p : Int × Int) (h : p ∈ spL (bys x)) : 0 ≤ p.1 ∧ p.1 ≤ p.2 ∧ p.2 < 256 :=
  ⟨(bys_byte x _ (spL_from _ p h).1).1, spL_ok _ p h, (bys_byte x _ (spL_from _ p h).2).2⟩

/-- The members of a class text, behind one another. -/
def mems (l : List (Int × Int)) : List UInt8 := l.flatMap fun p => spT p.1.toNat p.2.toNat
theorem mems_snoc (l : List (Int × Int)) (p : Int × Int) : mems (l ++ [p]) = mems l ++ spT p.1.toNat p.2.toNat := by unfold mems; rw [List.flatMap_append]; simp
def fulB (x : BitVec 256) : Bool := x == ~~~ 0#256
/-- The class text of a set. -/
def shT (x : BitVec 256) : List UInt8 := if fulB x then [91, 94, 93] else 91 :: mems (spL (bys x)) ++ [93]
theorem fulB_any (x : BitVec 256) (w : World) : Calls Try.prog 33 #[sv x] w fun e w' => e = .returned (.bool (fulB x)) ∧ Below w.heap.size w w' := full_any x w
theorem itm_len (b : Nat) : (itm b).length ≤ 4 := by
  unfold itm
  repeat' split
  all_goals simp
theorem spT_len (lo hi : Nat) : (spT lo hi).length ≤ 9 := by
  have h1 := itm_len lo
  have h2 := itm_len hi
  unfold spT
  repeat' split
  · omega
  · rw [List.length_append]; omega
  · rw [List.length_append, List.length_append]; simp only [List.length_singleton]; omega
theorem mems_cons (p : Int × Int) (l : List (Int × Int)) : mems (p :: l) = spT p.1.toNat p.2.toNat ++ mems l := by unfold mems; rw [List.flatMap_cons]
theorem mems_len (l : List (Int × Int)) : (mems l).length ≤ 9 * l.length := by
  induction l with
  | nil => simp [mems]
  | cons p l ih => have := spT_len p.1.toNat p.2.toNat; rw [mems_cons, List.length_append, List.length_cons]; omega

theorem bld_below {w w' : World} {b : Nat} {bs : List Value} (h : Lib.IsBuilder 86 5 b b bs w) (hb : Below w.heap.size w w') : Lib.IsBuilder 86 5 b b bs w' := by
  have key : ∀ p, Lib.BuilderAt 86 5 b b p bs w → Lib.BuilderAt 86 5 b b p bs w' := fun p hp => by
    have hlt := hp.lt
    obtain ⟨hB, v, hbk, hown, hne⟩ := hp
    exact ⟨hB, v, (hb.block b hlt).trans hbk, own_below hown hb (by omega), hne⟩
  exact h.imp (key _) (key _)
theorem own_keepT {w w' : World} {b base : Nat} {v : Value} {n : Nat} {xs : List Value} (h : w.ownsRow base 52 2 v n xs) (hk : KeepT b w w') (hb : b < base) : w'.ownsRow base 52 2 v n xs := by
  refine ⟨h.1, h.2.imp id ?_⟩
  rintro ⟨g, cap, cur, h1, h2, h3, h4⟩
  have hlt : g < w.heap.size := (h.lt g (by rw [h1]; rfl)).2
  exact ⟨g, cap, cur, h1, h2, (hk.block g hlt (by omega) (fun c fr e => by rw [h3] at e; cases e)).trans h3, h4⟩

theorem alloc_size (w : World) (o : Obj) : (w.alloc o).heap.size = w.heap.size + 1 := by simp
theorem own_below' {w w' : World} {base e size : Nat} {v : Value} {n : Nat} {xs : List Value} (h : w.ownsRow base e size v n xs) (hb : Below w.heap.size w w') : w'.ownsRow base e size v n xs := by
  refine h.kept (row := none) ⟨hb.os, hb.tape, hb.output, hb.size, fun k hk _ => hb.block k hk⟩ ?_
  cases h2 : v.ownBlock
  · exact .inl rfl
  · exact .inr (by simp)
theorem bld_more {w : World} {b : Nat} {c : UInt8} {m l : List UInt8} (h : Lib.IsBuilder 86 5 b b (Lib.byteCells (c :: m) ++ Lib.strCells ⟨l.toArray⟩) w) : Lib.IsBuilder 86 5 b b (Lib.byteCells (c :: (m ++ l))) w := by
  rw [Lib.strCells_eq, ← Lib.byteCells_append] at h; exact h
theorem bld_more1 {w : World} {b : Nat} {m : List UInt8} (h : Lib.IsBuilder 86 5 b b (Lib.byteCells m ++ [.int .u8 93]) w) : Lib.IsBuilder 86 5 b b (Lib.byteCells (m ++ [93])) w := by
  rw [Lib.byteCells_append]; exact h
theorem len_str {SL : List (Int × Int)} {k lo hi : Nat} (h : SL.length ≤ 256) : (Lib.byteCells (91 :: mems (SL.take k))).length + (⟨(spT lo hi).toArray⟩ : ByteArray).size ≤ 140737488355328 := by
  rw [Lib.byteCells_length, List.length_cons]
  have h1 := mems_len (SL.take k)
  have h2 := spT_len lo hi
  have h3 : (SL.take k).length ≤ 256 := by rw [List.length_take]; omega
  show _ + (spT lo hi).toArray.size ≤ _
  rw [List.size_toArray]
  omega
theorem len_end {SL : List (Int × Int)} (h : SL.length ≤ 256) : (Lib.byteCells (91 :: mems SL)).length + 1 ≤ 140737488355328 := by
  rw [Lib.byteCells_length, List.length_cons]
  have h1 := mems_len SL
  omega
theorem step_at (SL : List (Int × Int)) (k : Nat) (h : k < SL.length) (hok : ∀ p ∈ SL, 0 ≤ p.1 ∧ p.1 ≤ p.2 ∧ p.2 < 256) :
    ∃ lo hi : Nat, lo ≤ hi ∧ hi < 256 ∧ (SL[k]).1 = (lo : Int) ∧ (SL[k]).2 = (hi : Int) ∧ mems (SL.take (k + 1)) = mems (SL.take k) ++ spT lo hi := by
  obtain ⟨h1, h2, h3⟩ := hok _ (List.getElem_mem h)
  refine ⟨(SL[k]).1.toNat, (SL[k]).2.toNat, by omega, by omega, by omega, by omega, ?_⟩
  rw [← mems_snoc, List.take_append_getElem h]
theorem read_at {w : World} {base : Nat} {g : Option Addr} {cap k : Nat} {SL : List (Int × Int)} (h : w.ownsRow base 52 2 (.slice g SL.length cap) SL.length (spc SL)) (hk : k < SL.length) :
    ∃ g', g = some ⟨g', 0, none⟩ ∧ w.cell? ⟨g', k * 2, none⟩ = some (.int .i64 (SL[k]).1) ∧ w.cell? ⟨g', k * 2 + 1, none⟩ = some (.int .i64 (SL[k]).2) := by
  rcases h.2 with ⟨hv, h0⟩ | ⟨g', cap', cur, hv, hr⟩
  · omega
  · cases hv
    exact ⟨g', rfl, (h.cellAt (k * 2) (by omega)).trans (spc_lo SL k hk), (h.cellAt (k * 2 + 1) (by omega)).trans (spc_hi SL k hk)⟩

set_option maxRecDepth 100000 in
set_option maxHeartbeats 2000000 in
theorem show_any (x : BitVec 256) (w : World) :
    Calls Try.prog 50 #[sv x] w fun e w' => e = .returned (.string ⟨(shT x).toArray⟩) ∧ Below w.heap.size w w' := by
  have HX := (show Hid _ from Holds.new w x)
  have HB := (show Hid _ from below1 w (c4 x))
  cases hf : fulB x
  · have HE : Hid (shT x = 91 :: mems (spL (bys x)) ++ [93]) := (by show shT x = _; unfold shT; rw [hf]; rfl)
    go_enter Try.func50, Try.ntmps50
    go_wp2_with fail
    refine (fulB_any x _).mono ?_
    rintro e w1 ⟨rfl, hb⟩
    have HX1 := (show Hid _ from HX.out.below hb (by simp))
    have HB1 := (show Hid _ from HB.out.trans (hb.mono (by simp)))
    have hs1 : w.heap.size < w1.heap.size := HX1.out.lt
    have hbl := (show Hid _ from Lib.fresh_isBuilder 86 5 w1)
    clear hb HX HB
    go_wp2_with fail
    refine (writeByte_any w1.heap.size [] 91 _ hbl.out (by simp)).mono ?_
    rintro e w2 ⟨rfl, hb, hb2, hk2⟩
    have HL2 := (show Hid _ from hb)
    have hs2 : w1.heap.size < w2.heap.size := by have := hb2.size; simp at this; omega
    have HB2 := (show Hid _ from (HB1.out.alloc (by omega) _).trans (hb2.mono (by omega)))
    have HX2 := (show Hid _ from (HX1.out.alloc _).below hb2 (by omega))
    clear hb hb2 hk2 hbl HB1 HX1
    obtain ⟨x0, x1, x2, x3⟩ := (⟨HX2.out.c0, HX2.out.c1, HX2.out.c2, HX2.out.c3⟩ : _ ∧ _ ∧ _ ∧ _)
    go_wp2_with fail
    refine (spans_any x _).mono ?_
    rintro e w3 ⟨v, rfl, hro, hnil, hb3⟩
    have HL3 := (show Hid _ from bld_below HL2.out hb3)
    have HB3 := (show Hid _ from HB2.out.trans (hb3.mono (by omega)))
    have hs3 := hb3.size
    have HR := (show Hid _ from hro)
    have hsl : ∃ g cap, v = .slice g (spL (bys x)).length cap := by
      rcases hro.2 with ⟨hv, h0⟩ | ⟨g, cap, cur, hv, _⟩
      · exact ⟨_, _, by rw [h0]; exact hv⟩
      · exact ⟨_, _, hv⟩
    obtain ⟨g, cap, rfl⟩ := hsl
    have HZ : Hid ((spL (bys x)).length ≤ 256) := (show (spL (bys x)).length ≤ 256 from spL_len256 x)
    have HOK : Hid (∀ p ∈ spL (bys x), 0 ≤ p.1 ∧ p.1 ≤ p.2 ∧ p.2 < 256) := (fun p hp => spL_byte x p hp)
    clear hro hnil hb3 HX2 x0 x1 x2 x3
    have HME : Hid (shT x = 91 :: mems (spL (bys x)) ++ [93]) := HE
    clear HE
    generalize spL (bys x) = SL at *
    go_wp2
    go_loopw [12] (fun t wr => ∃ k : Nat, k ≤ SL.length ∧ t = .int .i64 k ∧ Hid (Lib.IsBuilder 86 5 w1.heap.size w1.heap.size (Lib.byteCells (91 :: mems (SL.take k))) wr ∧ wr.ownsRow (w2.heap.size + 1) 52 2 (.slice g SL.length cap) SL.length (spc SL) ∧ Below w.heap.size w wr ∧ w3.heap.size ≤ wr.heap.size)) (fun t _ => SL.length - (intOf t).toNat)
    case atStart => exact ⟨0, by omega, rfl, HL3.out, HR.out, HB3.out, Nat.le_refl _⟩
    case round =>
      obtain ⟨k, hk, rfl, HI⟩ := hrel
      have hz := HZ.out
      by_cases hlt : k < SL.length
      · have hk0 : (0 : Int) ≤ (k : Int) := by omega
        have hk1 : (k : Int) < (SL.length : Int) := by omega
        obtain ⟨lo, hi, hle, hh, e1, e2, hmem⟩ := step_at SL k hlt HOK.out
        obtain ⟨g', rfl, c0, c1⟩ := read_at HI.out.2.1 hlt
        rw [e1] at c0
        rw [e2] at c1
        have hkl : k * 2 + 1 < 2 * SL.length := by omega
        go_wp2_with fail
        refine (showSpan_any lo hi hle hh _).mono ?_
        rintro e w4 ⟨rfl, hb4⟩
        have hs4 := hb4.size
        simp only [alloc_size] at hs4
        have ha4 : Below wr.heap.size wr w4 := ((Below.refl wr.heap.size wr).alloc (Nat.le_refl _) _).trans (hb4.mono (by simp))
        have hL4 := bld_below HI.out.1 ha4
        have hO4 := own_below' HI.out.2.1 ha4
        have hB4 := HI.out.2.2.1.trans (ha4.mono HI.out.2.2.1.size)
        have hz4 := HI.out.2.2.2
        have HL4 := (show Hid _ from hL4)
        have HJ := (show Hid _ from (⟨hO4, hB4, (by omega : w3.heap.size ≤ w4.heap.size)⟩ : _ ∧ _ ∧ _))
        clear hb4 ha4 hL4 hO4 hB4 hz4 HI c0 c1
        go_wp2_with fail
        refine (writeString_any w1.heap.size _ _ _ HL4.out ?_).mono ?_
        · exact len_str HZ.out
        rintro e w5 ⟨rfl, hb, hb5, hk5⟩
        have HL5 := (show Hid _ from hb)
        have HK := (show Hid _ from (⟨own_keepT HJ.out.1 hk5 (by omega), HJ.out.2.1.trans (hb5.mono (by omega)), Nat.le_trans HJ.out.2.2 hk5.size⟩ : _ ∧ _ ∧ _))
        clear hb hb5 hk5 HL4 HJ
        go_wp2
        go_roundw
        case rel => exact ⟨k + 1, by omega, by go_num, by rw [hmem]; exact bld_more HL5.out, HK.out.1, HK.out.2.1, HK.out.2.2⟩
        case measure => simp [intOf]; omega
      · obtain rfl : k = SL.length := by omega
        rw [List.take_length] at HI
        go_wp2_with fail
        refine (writeByte_any w1.heap.size _ 93 _ HI.out.1 ?_).mono ?_
        · exact len_end HZ.out
        rintro e w5 ⟨rfl, hb, hb5, hk5⟩
        have HL5 := (show Hid (Lib.IsBuilder 86 5 w1.heap.size w1.heap.size (Lib.byteCells (shT x)) w5) from (by rw [HME.out]; exact bld_more1 hb))
        have HB5 := (show Hid _ from HI.out.2.2.1.trans (hb5.mono (by omega)))
        have hs5 := hk5.size
        have hs6 := HI.out.2.2.2
        clear hb hb5 hk5
        go_wp2_with fail
        refine (Try.Builder_String_any w1.heap.size w1.heap.size (shT x) _ HL5.out (by omega)).mono ?_
        rintro e w6 ⟨rfl, hb6⟩
        have HB6 := (show Hid _ from HB5.out.trans (hb6.mono (by omega)))
        clear hb6
        go_wp2
        go_ret
        exact ⟨rfl, HB6.out⟩
  · have HE : Hid (shT x = [91, 94, 93]) := (by show shT x = _; unfold shT; rw [hf]; rfl)
    go_enter Try.func50, Try.ntmps50
    go_wp2_with fail
    refine (fulB_any x _).mono ?_
    rintro e w1 ⟨rfl, hb⟩
    have HB1 := (show Hid _ from HB.out.trans (hb.mono (by simp)))
    clear hb
    go_wp2
    go_ret
    exact ⟨by rw [HE.out]; rfl, HB1.out⟩
end Go.Proofs.Ytlcmlipldkpliaa
