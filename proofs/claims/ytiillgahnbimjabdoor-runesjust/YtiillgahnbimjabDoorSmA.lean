/- DERIVED. Walks: seam. -/
import Derived.Test.YtiillgahnbimjabDoorPlE
import Derived.Test.YtiillgahnbimjabDoorRcA
import Derived.BigQuiet
import Derived.WalkSmall
namespace Go.Proofs.YtiillgahnbimjabDoor
open Go.RowKit

/-- A box with a run. -/
structure RBox (w : World) (b : Nat) (p q : Int) : Prop where
  lt : b < w.heap.size
  c0 : w.cell? ⟨b, 0, none⟩ = some (.int .i32 p)
  c1 : w.cell? ⟨b, 1, none⟩ = some (.int .i32 q)
theorem RBox.new (w : World) (p q : Int) : RBox (w.alloc (.cells #[.int .i32 p, .int .i32 q] 42)) w.heap.size p q := by
  constructor <;> simp [go_sem]
theorem RBox.below {B : Nat} {w w' : World} {b : Nat} {p q : Int} (h : RBox w b p q) (hb : Below B w w') (hB : b < B) : RBox w' b p q :=
  ⟨Nat.lt_of_lt_of_le h.lt hb.size, (hb.cell (p := ⟨b, 0, none⟩) hB).trans h.c0, (hb.cell (p := ⟨b, 1, none⟩) hB).trans h.c1⟩
theorem RBox.grown {w w' : World} {b : Nat} {p q : Int} {row : Option Nat} (h : RBox w b p q) (hg : w.grownBy w' row) (hne : row = some b → False) : RBox w' b p q := by
  have e := hg.block b h.lt (fun e => hne e.symm)
  exact ⟨Nat.lt_of_lt_of_le h.lt hg.size, (World.cell?_of_block (a := ⟨b, 0, none⟩) e).trans h.c0, (World.cell?_of_block (a := ⟨b, 1, none⟩) e).trans h.c1⟩

/-- What seam answers. -/
def smV : Option Int → Value
  | some c => .tuple #[.int .i32 c, .bool true]
  | none => .tuple #[.int .i32 0, .bool false]

structure AtM (w wr : World) (lo hi : Int) : Prop where
  x : RBox wr w.heap.size lo hi
  b : Below w.heap.size w wr

set_option maxRecDepth 100000 in
set_option maxHeartbeats 8000000 in
theorem seam_any (lo hi : Int) (h : Blk lo hi) (w : World) :
    Calls Tryd.prog 16 #[.agg #[.int .i32 lo, .int .i32 hi]] w fun e w' => e = .returned (smV (seam lo hi)) ∧ Below w.heap.size w w' := by
  have hcp := h.cpl.1
  have h0 := h.cpl.2.2.2.1
  have h1 := h.cpl.2.2.2.2.1
  have h2 := h.cpl.2.2.2.2.2
  have HL : Hid (∀ w, Calls Tryd.prog 14 #[.int .i32 lo] w fun e w' => e = .returned (.int .i64 (szI lo : Int)) ∧ w' = w) := fun w => by
    have hh := Tryd.utf8_RuneLen lo w
    rwa [runeLen_eq hcp] at hh
  have hsz := szI_bd lo
  have HA := (show Hid (AtM w (w.alloc (.cells #[.int .i32 lo, .int .i32 hi] 42)) lo hi) from ⟨RBox.new w lo hi, (Below.refl _ _).alloc (Nat.le_refl _) _⟩)
  have HS := (show Hid (∀ c, seam lo hi = some c → lo < c ∧ c ≤ hi) from fun c hc => seam_bd h0 h1 hc)
  generalize hR : seam lo hi = R at *
  have HR := (show Hid (seamK lo hi (szI lo - 1) 1 = R) from hR)
  generalize szI lo = K at *
  clear hR hcp h
  obtain ⟨_, c0, c1⟩ := HA.out.x
  go_enter Tryd.func16, Tryd.ntmps16
  go_wp2_with fail
  refine (HL.out _).mono ?_
  rintro e w1 ⟨rfl, rfl⟩
  clear c0 c1 HL
  go_wp2_with fail
  go_loopw [4, 11] (fun t u wr => ∃ k : Nat, ∃ m : Int, t = .int .i32 m ∧ u = .int .i64 k ∧ k + 1 ≤ K ∧ Hid ((k = 0 ∧ m = 1) ∨ (k = 1 ∧ m = 64) ∨ (k = 2 ∧ m = 4096) ∨ k = 3) ∧ Hid (seamK lo hi (K - 1 - k) m = R) ∧ Hid (AtM w wr lo hi)) (fun _ u _ => 5 - (intOf u).toNat)
  case atStart => exact ⟨0, 1, rfl, rfl, by omega, .inl ⟨rfl, rfl⟩, HR, HA⟩
  case round =>
    obtain ⟨k, m, rfl, rfl, hk, HM, HK, HW⟩ := hrel
    clear HA HR
    by_cases hlt : k + 1 < K
    · have hlt2 : (k : Int) < (K : Int) - 1 := by omega
      obtain ⟨m', hm', hmm⟩ : ∃ m' : Int, m' = m * 64 ∧ (m' = 64 ∨ m' = 4096 ∨ m' = 262144) := ⟨_, rfl, by have e := HM.out; omega⟩
      have HM2 := (show Hid ((k + 1 = 0 ∧ m' = 1) ∨ (k + 1 = 1 ∧ m' = 64) ∨ (k + 1 = 2 ∧ m' = 4096) ∨ k + 1 = 3) from (by show _ ∨ _; have e := HM.out; omega))
      have hwm : IntKind.i32.wrap (m * 64) = m' := by rw [← hm', IntKind.wrap_i32]; rcases hmm with rfl | rfl | rfl <;> rfl
      have HKn := (show Hid (seamAt lo hi m' = none → seamK lo hi (K - 1 - (k + 1)) m' = R) from fun e => by
        have e2 := HK.out
        rw [hm'] at e
        rw [show K - 1 - k = (K - 1 - (k + 1)) + 1 from by omega, seamK_none e, ← hm'] at e2
        exact e2)
      have HKs := (show Hid (∀ c, seamAt lo hi m' = some c → R = some c ∧ lo < c ∧ c ≤ hi) from fun c e => by
        have e2 := HK.out
        rw [hm'] at e
        rw [show K - 1 - k = (K - 1 - (k + 1)) + 1 from by omega, seamK_some e] at e2
        exact ⟨e2.symm, HS.out c e2.symm⟩)
      have hpos : 0 < m' ∧ m' ≤ 262144 := by omega
      have hm0 : m' ≠ 0 := by omega
      have q1 : lo.tdiv m' = lo / m' := Int.tdiv_eq_ediv_of_nonneg h0
      have q2 : hi.tdiv m' = hi / m' := Int.tdiv_eq_ediv_of_nonneg (by omega)
      have q3 : lo.tmod m' = lo % m' := Int.tmod_eq_emod_of_nonneg h0
      have q4 : (hi + 1).tmod m' = (hi + 1) % m' := Int.tmod_eq_emod_of_nonneg (by omega)
      have b1 : 0 ≤ lo / m' ∧ lo / m' ≤ lo := by rcases hmm with rfl | rfl | rfl <;> omega
      have b2 : 0 ≤ hi / m' ∧ hi / m' ≤ hi := by rcases hmm with rfl | rfl | rfl <;> omega
      have b3 : 0 ≤ lo % m' ∧ lo % m' < m' := by rcases hmm with rfl | rfl | rfl <;> omega
      have b4 : 0 ≤ (hi + 1) % m' ∧ (hi + 1) % m' < m' := by rcases hmm with rfl | rfl | rfl <;> omega
      have HSe := (show Hid (∀ a b x y, a = lo / m' → b = hi / m' → x = lo % m' → y = (hi + 1) % m' → seamAt lo hi m' = if a = b then none else if x ≠ 0 then some ((a + 1) * m') else if y ≠ 0 then some (b * m') else none) from fun a b x y e1 e2 e3 e4 => by rw [e1, e2, e3, e4]; rfl)
      have HSq := (show Hid _ from HSe.out (lo / m') (hi / m') (lo % m') ((hi + 1) % m') rfl rfl rfl rfl)
      clear hm' HK HM hmm HSe HS
      have c0 := HW.out.x.c0
      have c1 := HW.out.x.c1
      go_wp2_with fail
      go_quiet (fail)
      have HW1 := (show Hid (AtM w (wr.drewN nq) lo hi) from ⟨HW.out.x.below (below_drewN (Below.refl _ _) _) HW.out.x.lt, HW.out.b.trans (below_drewN (Below.refl _ _) _)⟩)
      generalize wr.drewN nq = w1 at *
      clear c0 c1 HW q1 q2
      have c0 := HW1.out.x.c0
      have c1 := HW1.out.x.c1
      generalize lo / m' = a at *
      generalize hi / m' = b at *
      generalize lo % m' = x at *
      generalize (hi + 1) % m' = y at *
      by_cases hab : a = b
      · have HN := (show Hid _ from HKn.out (by rw [HSq.out, if_pos hab]))
        clear HKn HKs HSq
        subst hab
        go_wp2
        go_roundw
        case rel => exact ⟨k + 1, m', by go_num, by go_num, by omega, HM2, HN, HW1⟩
        case measure => simp [intOf]; omega
      · have eab : (a == b) = false := beq_eq_false_iff_ne.2 hab
        by_cases hx : x = 0
        · have ex : (x != 0) = false := by rw [hx]; rfl
          by_cases hy : y = 0
          · have HN := (show Hid _ from HKn.out (by rw [HSq.out, if_neg hab, if_neg (by omega), if_neg (by omega)]))
            have ey : (y != 0) = false := by rw [hy]; rfl
            clear HKn HKs HSq hab hx hy
            go_wp2
            go_roundw
            case rel => exact ⟨k + 1, m', by go_num, by go_num, by omega, HM2, HN, HW1⟩
            case measure => simp [intOf]; omega
          · obtain ⟨hR, hb1, hb2⟩ := HKs.out (b * m') (by rw [HSq.out, if_neg hab, if_neg (by omega), if_pos hy])
            have ey : (y != 0) = true := bne_iff_ne.2 hy
            have HE := (show Hid _ from hR)
            have v1 : IntKind.i32.wrap (b * m') = b * m' := by rw [IntKind.wrap_i32]; omega
            clear HKn HKs HSq hab hx hy hR hb1 hb2
            go_wp2
            go_ret2
            exact ⟨by rw [HE.out]; rfl, HW1.out.b⟩
        · obtain ⟨hR, hb1, hb2⟩ := HKs.out ((a + 1) * m') (by rw [HSq.out, if_neg hab, if_pos hx])
          have ex : (x != 0) = true := bne_iff_ne.2 hx
          have HE := (show Hid _ from hR)
          have v1 : IntKind.i32.wrap ((a + 1) * m') = (a + 1) * m' := by rw [IntKind.wrap_i32]; omega
          clear HKn HKs HSq hab hx hR hb1 hb2
          go_wp2
          go_ret2
          exact ⟨by rw [HE.out]; rfl, HW1.out.b⟩
    · have HE := (show Hid (R = none) from (by have e := HK.out; rw [show K - 1 - k = 0 from by omega] at e; exact e.symm))
      obtain rfl : K = k + 1 := by omega
      clear HK HM HS
      go_wp2
      go_ret2
      exact ⟨by rw [HE.out]; rfl, HW.out.b⟩
end Go.Proofs.YtiillgahnbimjabDoor
