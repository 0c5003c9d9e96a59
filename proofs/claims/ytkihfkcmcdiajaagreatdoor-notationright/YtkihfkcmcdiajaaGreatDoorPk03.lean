/- DERIVED. Plain mathematics and walks, laid together (3). -/
import Derived.Lib.AtoiErrMem
import Derived.Deep.AppendLies
import Derived.LoopN
import Derived.WalkKit
import Derived.Test.YtkihfkcmcdiajaaGreatDoorPk02
namespace Go.Proofs.YtkihfkcmcdiajaaGreatDoor.N
open Go.RowKit
theorem sufK_27 {tm : ByteArray → Bool} {t u : Tk} {k k2 c : Int} (h : sufK tm t u k k2 = .inr (some c)) : k = 27 := by
  unfold sufK at h
  by_cases h0 : k = 10
  · rw [if_pos h0] at h; cases h
  rw [if_neg h0] at h
  by_cases h1 : k = 11
  · rw [if_pos h1] at h; cases h
  rw [if_neg h1] at h
  by_cases h2 : k = 12
  · rw [if_pos h2] at h; cases h
  rw [if_neg h2] at h
  by_cases h3 : k = 13
  · rw [if_pos h3] at h; cases h
  rw [if_neg h3] at h
  by_cases h4 : k = 14
  · rw [if_pos h4] at h; cases h
  rw [if_neg h4] at h
  by_cases h5 : k = 15
  · rw [if_pos h5] at h; cases h
  rw [if_neg h5] at h
  by_cases h7 : k = 27
  · exact h7
  · rw [if_neg h7] at h; cases h
theorem PF_err (E : PE) : ∀ (f m i d : Nat) (q : Nat × Int), i ≤ E.l.length → (m = 5 → i < E.l.length) → nee E m i ≤ f → PF E f m i d = .inr q → q.1 ≤ E.l.length ∧ (q.2 = 60 ∨ q.2 = 61 ∨ q.2 = 4 ∨ q.2 = 1) := by
  intro f
  induction f with
  | zero => intro m i d q _ _ h; unfold nee at h; omega
  | succ f ih =>
    intro m i d q hi h5 hf hr
    rw [PF] at hr
    by_cases m0 : m = 0
    · subst m0
      unfold nee at hf
      rw [rk0] at hf
      rw [if_pos rfl] at hr
      rcases bnd_inr hr with r1 | ⟨a1, n1, r1, hr⟩
      · exact ih _ _ _ _ hi (by omega) (by unfold nee; rw [rk2]; omega) r1
      · obtain ⟨x1, x2, x3⟩ := PF_adv E _ _ _ _ _ _ hi (by omega) r1
        exact ih _ _ _ _ x2 (by omega) (by unfold nee; rw [rk1]; have := x3 (by omega); omega) (ahd_inr hr)
    rw [if_neg m0] at hr
    by_cases m1 : m = 1
    · subst m1
      unfold nee at hf
      rw [rk1] at hf
      rw [if_pos rfl] at hr
      by_cases k7 : kdA E i = 7
      · have hlt := kd_lt (E := E) (i := i) (by omega)
        rw [if_pos k7] at hr
        rcases bnd_inr hr with r1 | ⟨a1, n1, r1, hr⟩
        · exact ih _ _ _ _ (by omega) (by omega) (by unfold nee; rw [rk2]; omega) r1
        · obtain ⟨x1, x2, x3⟩ := PF_adv E _ _ _ _ _ _ (by omega) (by omega) r1
          exact ih _ _ _ _ x2 (by omega) (by unfold nee; rw [rk1]; have := x3 (by omega); omega) (ahd_inr hr)
      · rw [if_neg k7] at hr; cases hr
    rw [if_neg m1] at hr
    by_cases m2 : m = 2
    · subst m2
      unfold nee at hf
      rw [rk2] at hf
      rw [if_pos rfl] at hr
      rcases bnd_inr hr with r1 | ⟨a1, n1, r1, hr⟩
      · exact ih _ _ _ _ hi (by omega) (by unfold nee; rw [rk4]; omega) r1
      · obtain ⟨x1, x2, x3⟩ := PF_adv E _ _ _ _ _ _ hi (by omega) r1
        exact ih _ _ _ _ x2 (by omega) (by unfold nee; rw [rk3]; have := x3 (by omega); omega) (ahd_inr hr)
    rw [if_neg m2] at hr
    by_cases m3 : m = 3
    · subst m3
      unfold nee at hf
      rw [rk3] at hf
      rw [if_pos rfl] at hr
      by_cases kb : bgn E i = true
      · rw [if_pos kb] at hr
        rcases bnd_inr hr with r1 | ⟨a1, n1, r1, hr⟩
        · exact ih _ _ _ _ hi (by omega) (by unfold nee; rw [rk4]; omega) r1
        · obtain ⟨x1, x2, x3⟩ := PF_adv E _ _ _ _ _ _ hi (by omega) r1
          exact ih _ _ _ _ x2 (by omega) (by unfold nee; rw [rk3]; have := x3 (by omega); omega) (ahd_inr hr)
      · rw [if_neg kb] at hr; cases hr
    rw [if_neg m3] at hr
    by_cases m4 : m = 4
    · subst m4
      unfold nee at hf
      rw [rk4] at hf
      rw [if_pos rfl] at hr
      by_cases kb : bgn E i = true
      · have hlt := bgn_lt kb
        rw [if_pos kb] at hr
        by_cases k8 : kdA E i = 8 ∨ kdA E i = 9
        · rw [if_pos k8] at hr
          by_cases hd : 240 ≤ d
          · rw [if_pos hd] at hr; cases hr; exact ⟨hi, by simp⟩
          · rw [if_neg hd] at hr
            rcases bnd_inr hr with r1 | ⟨a1, n1, r1, hr⟩
            · exact ih _ _ _ _ (by omega) (by omega) (by unfold nee; rw [rk4]; omega) r1
            · cases hr
        · rw [if_neg k8] at hr
          rcases bnd_inr hr with r1 | ⟨a1, n1, r1, hr⟩
          · exact ih _ _ _ _ hi (fun _ => hlt) (by unfold nee; rw [rk5]; omega) r1
          · obtain ⟨x1, x2, x3⟩ := PF_adv E _ _ _ _ _ _ hi (fun _ => hlt) r1
            exact ih _ _ _ _ x2 (by omega) (by unfold nee; rw [rk6]; have := x3 (by omega); omega) (ahd_inr hr)
      · rw [if_neg kb] at hr; cases hr; exact ⟨hi, by simp⟩
    rw [if_neg m4] at hr
    by_cases m5 : m = 5
    · have hlt := h5 m5
      subst m5
      unfold nee at hf
      rw [rk5] at hf
      rw [if_pos rfl] at hr
      cases hp : primL E i with
      | inl p => rw [hp] at hr; cases hr
      | inr p =>
        rw [hp] at hr
        dsimp only at hr
        by_cases hd : 240 ≤ d
        · rw [if_pos hd] at hr; cases hr; exact ⟨hi, by simp⟩
        · rw [if_neg hd] at hr
          rcases bnd_inr hr with r1 | ⟨a1, n1, r1, hr⟩
          · exact ih _ _ _ _ (by omega) (by omega) (by unfold nee; rw [rk0]; omega) r1
          · obtain ⟨x1, x2, x3⟩ := PF_adv E _ _ _ _ _ _ (by omega) (by omega) r1
            split at hr
            · cases hr
            · cases hr; exact ⟨x2, by simp⟩
    rw [if_neg m5] at hr
    unfold nee at hf
    rw [suf_rk m m0 m2 m3 m4 m5] at hf
    cases hs : sufN E i with
    | inl p =>
      rw [hs] at hr
      obtain ⟨q1, q2⟩ := suf_lt hs
      exact ih _ _ _ _ q2 (fun q => by cases q) (by unfold nee; rw [rk6]; omega) (ahd_inr hr)
    | inr o =>
      rw [hs] at hr
      cases o with
      | none => cases hr
      | some c =>
        have hc := sufK_e hs
        have hk : kdA E i = 27 := sufK_27 hs
        have := kd_lt (E := E) (i := i) (by omega)
        cases hr
        exact ⟨this, by dsimp only; omega⟩
end Go.Proofs.YtkihfkcmcdiajaaGreatDoor.N

namespace Go.Proofs.YtkihfkcmcdiajaaGreatDoor.N
open Go.RowKit
/-- Fuel that is enough for a pattern, wherever it begins. -/
def fue (E : PE) : Nat := 5 * E.l.length + 5
theorem nee_fue (E : PE) (i : Nat) : nee E 0 i ≤ fue E := by
  unfold nee fue
  rw [rk0]
  omega
def exN (E : PE) (i : Nat) : PR := PF E (fue E) 0 i 0
theorem ex_adv {E : PE} {i a : Nat} {ns : List Nd} (hi : i ≤ E.l.length) (h : exN E i = .inl (a, ns)) : i < a ∧ a ≤ E.l.length := by
  obtain ⟨_, h2, h3⟩ := PF_adv E _ _ _ _ _ _ hi (by omega) h
  exact ⟨h3 (.inl rfl), h2⟩
theorem ex_err {E : PE} {i : Nat} {q : Nat × Int} (hi : i ≤ E.l.length) (h : exN E i = .inr q) : q.1 ≤ E.l.length ∧ (q.2 = 60 ∨ q.2 = 61 ∨ q.2 = 4 ∨ q.2 = 1) := PF_err E _ _ _ _ _ hi (by omega) (nee_fue E i) h
def ruB (E : PE) (i : Nat) : Bool := kdA E i == 1 && kdA E (i + 1) == 6
/-- Where a rule's first token is, its name, its nodes. -/
abbrev Rl := Nat × ByteArray × List Nd
def bare (t : Tk) : Tk := ⟨t.kd, t.nn, 0, 0, t.tx, t.s0, t.s1, t.s2, t.s3⟩
theorem alk_of {l l' : List Tk} (hm : l'.map bare = l.map bare) (rn : Int → Int → List Nd) (tm : ByteArray → Bool) : Alk ⟨l, rn, tm⟩ ⟨l', rn, tm⟩ := by
  have key : ∀ i, (l'[i]?).map bare = (l[i]?).map bare := fun i => by
    rw [← List.getElem?_map, ← List.getElem?_map, hm]
  refine ⟨rfl, rfl, fun i => ?_, fun i => ?_⟩
  · have k := key i
    unfold kdA
    dsimp only
    cases h1 : l'[i]? with
    | none =>
      rw [h1] at k
      cases h2 : l[i]? with
      | none => rfl
      | some u => rw [h2] at k; cases k
    | some t =>
      rw [h1] at k
      cases h2 : l[i]? with
      | none => rw [h2] at k; cases k
      | some u =>
        rw [h2] at k
        have k : (⟨t.kd, t.nn, 0, 0, t.tx, t.s0, t.s1, t.s2, t.s3⟩ : Tk) = ⟨u.kd, u.nn, 0, 0, u.tx, u.s0, u.s1, u.s2, u.s3⟩ := Option.some.inj k
        injection k
  · have k := key i
    unfold tkA
    dsimp only
    cases h1 : l'[i]? with
    | none =>
      rw [h1] at k
      cases h2 : l[i]? with
      | none => exact ⟨rfl, rfl, rfl, rfl, rfl, rfl, rfl⟩
      | some u => rw [h2] at k; cases k
    | some t =>
      rw [h1] at k
      cases h2 : l[i]? with
      | none => rw [h2] at k; cases k
      | some u =>
        rw [h2] at k
        have k : (⟨t.kd, t.nn, 0, 0, t.tx, t.s0, t.s1, t.s2, t.s3⟩ : Tk) = ⟨u.kd, u.nn, 0, 0, u.tx, u.s0, u.s1, u.s2, u.s3⟩ := Option.some.inj k
        injection k with k0 k1 k2 k3 k4 k5 k6 k7 k8
        exact ⟨k0, k1, k4, k5, k6, k7, k8⟩
end Go.Proofs.YtkihfkcmcdiajaaGreatDoor.N

namespace Go.Proofs.YtkihfkcmcdiajaaGreatDoor.N
open Go.RowKit
/-- What is read from the token i on, d signs open: m as in PF. -/
def gN (E : PE) (m i d : Nat) : PR := PF E (5 * E.l.length + 5) m i d
theorem nee_le (E : PE) (m i : Nat) : nee E m i ≤ 5 * E.l.length + 5 := by
  unfold nee rk
  split
  · omega
  · split
    · omega
    · split
      · omega
      · split
        · omega
        · split <;> omega
theorem gN_step (E : PE) (m i d : Nat) (hi : i ≤ E.l.length) (h5 : m = 5 → i < E.l.length) : gN E m i d = PF E (5 * E.l.length + 5 + 1) m i d :=
  PF_fuel E _ _ m i d hi h5 (nee_le E m i) (Nat.le_succ_of_le (nee_le E m i))
theorem gN_ex (E : PE) (i : Nat) : gN E 0 i 0 = exN E i := rfl
theorem gN_adv {E : PE} {m i d a : Nat} {ns : List Nd} (hi : i ≤ E.l.length) (h5 : m = 5 → i < E.l.length) (h : gN E m i d = .inl (a, ns)) : i ≤ a ∧ a ≤ E.l.length ∧ (m = 0 ∨ m = 2 ∨ m = 4 ∨ m = 5 → i < a) := PF_adv E _ _ _ _ _ _ hi h5 h
theorem g0 (E : PE) (i d : Nat) (hi : i ≤ E.l.length) : gN E 0 i d = bnd (gN E 2 i d) fun a ns => ahd ns (gN E 1 a d) := by
  rw [gN_step E 0 i d hi (by omega), PF, if_pos rfl]; rfl
theorem g1 (E : PE) (i d : Nat) (hi : i ≤ E.l.length) : gN E 1 i d = if kdA E i = 7 then bnd (gN E 2 (i + 1) d) fun a ns => ahd (ns ++ [nd0 8]) (gN E 1 a d) else .inl (i, []) := by
  rw [gN_step E 1 i d hi (by omega), PF, if_neg (by decide), if_pos rfl]; rfl
theorem g2 (E : PE) (i d : Nat) (hi : i ≤ E.l.length) : gN E 2 i d = bnd (gN E 4 i d) fun a ns => ahd ns (gN E 3 a d) := by
  rw [gN_step E 2 i d hi (by omega), PF, if_neg (by decide), if_neg (by decide), if_pos rfl]; rfl
theorem g3 (E : PE) (i d : Nat) (hi : i ≤ E.l.length) : gN E 3 i d = if bgn E i = true then bnd (gN E 4 i d) fun a ns => ahd (ns ++ [nd0 7]) (gN E 3 a d) else .inl (i, []) := by
  rw [gN_step E 3 i d hi (by omega), PF, if_neg (by decide), if_neg (by decide), if_neg (by decide), if_pos rfl]; rfl
theorem g4 (E : PE) (i d : Nat) (hi : i ≤ E.l.length) : gN E 4 i d = if bgn E i = true then
        (if kdA E i = 8 ∨ kdA E i = 9 then (if 240 ≤ d then .inr (i, 4) else bnd (gN E 4 (i + 1) (d + 1)) fun a ns => .inl (a, ns ++ [nd0 (if kdA E i = 8 then 12 else 13)]))
         else bnd (gN E 5 i d) fun a ns => ahd ns (gN E 6 a d))
       else .inr (i, 60) := by
  rw [gN_step E 4 i d hi (by omega), PF, if_neg (by decide), if_neg (by decide), if_neg (by decide), if_neg (by decide), if_pos rfl]; rfl
theorem g5 (E : PE) (i d : Nat) (hi : i < E.l.length) : gN E 5 i d = match primL E i with
       | .inl p => .inl (i + p.2, p.1)
       | .inr p => if 240 ≤ d then .inr (i, 4) else bnd (gN E 0 (i + 1) (d + 1)) fun a ms => if kdA E a = p.1 then .inl (a + 1, ms ++ p.2) else .inr (a, 60) := by
  rw [gN_step E 5 i d (by omega) (fun _ => hi), PF, if_neg (by decide), if_neg (by decide), if_neg (by decide), if_neg (by decide), if_neg (by decide), if_pos rfl]; rfl
theorem g6 (E : PE) (i d : Nat) (hi : i ≤ E.l.length) : gN E 6 i d = match sufN E i with
       | .inr none => .inl (i, [])
       | .inr (some c) => .inr (i + 1, c)
       | .inl p => ahd [p.1] (gN E 6 (i + p.2) d) := by
  rw [gN_step E 6 i d hi (by omega), PF, if_neg (by decide), if_neg (by decide), if_neg (by decide), if_neg (by decide), if_neg (by decide), if_neg (by decide)]; rfl
theorem ahd_ahd (a b : List Nd) (r : PR) : ahd a (ahd b r) = ahd (a ++ b) r := by
  cases r with
  | inl p => show Sum.inl _ = Sum.inl _; rw [List.append_assoc]
  | inr q => rfl
end Go.Proofs.YtkihfkcmcdiajaaGreatDoor.N

namespace Go.Proofs.YtkihfkcmcdiajaaGreatDoor
open Go.RowKit
set_option maxRecDepth 100000 in
set_option maxHeartbeats 1000000 in
theorem standsAt_any (s : ByteArray) (i : Nat) (c : Int) (hc : 0 ≤ c) (w : World) :
    Calls Tryz.prog 148 #[.string s, .int .i64 i, .int .u8 c] w fun e w' => e = .returned (.bool (chr s i == c)) ∧ w' = w := by
  by_cases h : i < s.size
  · have HE := (show Hid _ from chr_in h)
    have h0 : (0 : Int) ≤ (i : Int) := by omega
    have h1 : (i : Int) < (s.size : Int) := by omega
    go_enter Tryz.func148, Tryz.ntmps148
    go_wp2
    go_ret
    exact ⟨by rw [HE.out]; rfl, rfl⟩
  · have HE : Hid ((chr s i == c) = false) := (by show (chr s i == c) = false; rw [chr_out h]; exact beq_eq_false_iff_ne.2 (by omega))
    have h1 : ¬ (i : Int) < (s.size : Int) := by omega
    go_enter Tryz.func148, Tryz.ntmps148
    go_wp2
    go_ret
    exact ⟨ret_bool HE.out.symm, rfl⟩

/-- The digits of 16. -/
abbrev digs : ByteArray := ⟨#[48, 49, 50, 51, 52, 53, 54, 55, 56, 57, 97, 98, 99, 100, 101, 102]⟩
theorem idx_hex (c : UInt8) : Lib.indexByte digs.data.toList c = hexV (c.toNat : Int) := by
  have key : ∀ n, n < 256 → Lib.indexByte digs.data.toList (UInt8.ofNat n) = hexV (n : Int) := by decide +kernel
  have := key c.toNat c.toNat_lt
  rw [UInt8.ofNat_toNat] at this
  exact this
theorem index_hex (c : UInt8) (w : World) : Calls Tryz.prog 144 #[.string digs, .int .u8 (c.toNat : Int)] w fun e w' => e = .returned (.int .i64 (hexV (c.toNat : Int))) ∧ w' = w := by
  refine (Tryz.strings_IndexByte digs (c.toNat : Int) w).mono ?_
  rintro e w' ⟨rfl, rfl⟩
  refine ⟨?_, rfl⟩
  rw [← idx_hex]
  simp

/-- What a reading of one item answers. -/
def itV : Option (Nat × Nat) → Value
  | none => .tuple #[.int .i64 0, .int .i64 0, .bool false]
  | some (b, n) => .tuple #[.int .i64 b, .int .i64 n, .bool true]

theorem ret_it {b n : Nat} {b' n' : Int} (hb : b' = b) (hn : n' = n) : Ending.returned (.tuple #[.int .i64 b', .int .i64 n', .bool true]) = .returned (itV (some (b, n))) := by rw [hb, hn]; rfl

set_option maxRecDepth 100000 in
set_option maxHeartbeats 1000000 in
theorem readHex_any (s : ByteArray) (i : Nat) (hi : i + 1 < s.size) (hs : s.size ≤ 140737488355328) (w : World) :
    Calls Tryz.prog 193 #[.string s, .int .i64 i] w fun e w' => e = .returned (itV (rdHex s i)) ∧ w' = w := by
  by_cases h : i + 3 < s.size
  · have h2 : i + 2 < s.size := by omega
    have hb1 := hexV_bd (s[i + 2].toNat : Int)
    have hb2 := hexV_bd (s[i + 3].toNat : Int)
    have HE : Hid (rdHex s i = if 0 ≤ hexV (s[i + 2].toNat : Int) ∧ 0 ≤ hexV (s[i + 3].toNat : Int) then some ((16 * hexV (s[i + 2].toNat : Int) + hexV (s[i + 3].toNat : Int)).toNat, i + 4) else none) := (by show rdHex s i = _; unfold rdHex; rw [chr_in h, chr_in h2])
    have HI : Hid (∀ w, Calls Tryz.prog 144 #[.string digs, .int .u8 (s[i + 2].toNat : Int)] w fun e w' => e = .returned (.int .i64 (hexV (s[i + 2].toNat : Int))) ∧ w' = w) := fun w => index_hex _ w
    have HJ : Hid (∀ w, Calls Tryz.prog 144 #[.string digs, .int .u8 (s[i + 3].toNat : Int)] w fun e w' => e = .returned (.int .i64 (hexV (s[i + 3].toNat : Int))) ∧ w' = w) := fun w => index_hex _ w
    go_enter Tryz.func193, Tryz.ntmps193
    go_wp2_with fail
    refine (HI.out _).mono ?_
    rintro e w' ⟨rfl, rfl⟩
    clear HI
    go_wp2_with fail
    refine (HJ.out _).mono ?_
    rintro e w' ⟨rfl, rfl⟩
    clear HJ
    generalize hexV (s[i + 2].toNat : Int) = a at *
    generalize hexV (s[i + 3].toNat : Int) = b at *
    by_cases ha : 0 ≤ a
    · by_cases hb : 0 ≤ b
      · go_wp2
        go_ret3
        exact ⟨by rw [HE.out, if_pos ⟨ha, hb⟩]; exact ret_it (by omega) (by omega), rfl⟩
      · go_wp2
        go_ret3
        exact ⟨by rw [HE.out, if_neg (fun h => by omega)]; rfl, rfl⟩
    · go_wp2
      go_ret3
      exact ⟨by rw [HE.out, if_neg (fun h => by omega)]; rfl, rfl⟩
  · have h1 : ¬ (i : Int) + 3 < (s.size : Int) := by omega
    have HE : Hid (rdHex s i = none) := (by show rdHex s i = none; unfold rdHex; rw [chr_out h]; rw [if_neg]; rintro ⟨_, h2⟩; simp [hexV] at h2)
    go_enter Tryz.func193, Tryz.ntmps193
    go_wp2
    go_ret3
    exact ⟨by rw [HE.out]; rfl, rfl⟩

set_option maxRecDepth 100000 in
set_option maxHeartbeats 1000000 in
theorem readEsc_any (s : ByteArray) (i : Nat) (hi : i < s.size) (hs : s.size ≤ 140737488355328) (w : World) :
    Calls Tryz.prog 189 #[.string s, .int .i64 i] w fun e w' => e = .returned (itV (rdEsc s i)) ∧ w' = w := by
  by_cases h : i + 1 < s.size
  · have HX : Hid (∀ w, Calls Tryz.prog 193 #[.string s, .int .i64 i] w fun e w' => e = .returned (itV (rdHex s i)) ∧ w' = w) := fun w => readHex_any s i h hs w
    have hb : (0 : Int) ≤ (s[i + 1].toNat : Int) ∧ (s[i + 1].toNat : Int) ≤ 255 := by have := s[i + 1].toNat_lt; omega
    have hw8 : IntKind.i64.wrap (s[i + 1].toNat : Int) = (s[i + 1].toNat : Int) := by rw [IntKind.wrap_i64]; omega
    have HE : Hid (rdEsc s i = if (s[i + 1].toNat : Int) = 110 then some (10, i + 2) else if (s[i + 1].toNat : Int) = 114 then some (13, i + 2) else if (s[i + 1].toNat : Int) = 116 then some (9, i + 2) else
  if (s[i + 1].toNat : Int) = 120 then rdHex s i else if signB (s[i + 1].toNat : Int) then some ((s[i + 1].toNat : Int).toNat, i + 2) else none) := (by show rdEsc s i = _; unfold rdEsc; rw [chr_in h])
    by_cases h110 : (s[i + 1].toNat : Int) = 110
    · have HF := (show Hid (rdEsc s i = some (10, i + 2)) from (by show rdEsc s i = _; rw [HE.out]; rw [if_pos h110]))
      clear HE HX
      have e110 : ((s[i + 1].toNat : Int) == 110) = true := beq_iff_eq.2 h110
      clear h110
      go_enter Tryz.func189, Tryz.ntmps189
      go_wp2
      go_ret3
      exact ⟨by rw [HF.out]; exact ret_it rfl (by omega), rfl⟩
    have e110 : ((s[i + 1].toNat : Int) == 110) = false := beq_eq_false_iff_ne.2 h110
    by_cases h114 : (s[i + 1].toNat : Int) = 114
    · have HF := (show Hid (rdEsc s i = some (13, i + 2)) from (by show rdEsc s i = _; rw [HE.out]; rw [if_neg h110, if_pos h114]))
      clear HE HX
      have e114 : ((s[i + 1].toNat : Int) == 114) = true := beq_iff_eq.2 h114
      clear h114
      go_enter Tryz.func189, Tryz.ntmps189
      go_wp2
      go_ret3
      exact ⟨by rw [HF.out]; exact ret_it rfl (by omega), rfl⟩
    have e114 : ((s[i + 1].toNat : Int) == 114) = false := beq_eq_false_iff_ne.2 h114
    by_cases h116 : (s[i + 1].toNat : Int) = 116
    · have HF := (show Hid (rdEsc s i = some (9, i + 2)) from (by show rdEsc s i = _; rw [HE.out]; rw [if_neg h110, if_neg h114, if_pos h116]))
      clear HE HX
      have e116 : ((s[i + 1].toNat : Int) == 116) = true := beq_iff_eq.2 h116
      clear h116
      go_enter Tryz.func189, Tryz.ntmps189
      go_wp2
      go_ret3
      exact ⟨by rw [HF.out]; exact ret_it rfl (by omega), rfl⟩
    have e116 : ((s[i + 1].toNat : Int) == 116) = false := beq_eq_false_iff_ne.2 h116
    by_cases h120 : (s[i + 1].toNat : Int) = 120
    · have HF := (show Hid (rdEsc s i = rdHex s i) from (by show rdEsc s i = _; rw [HE.out]; rw [if_neg h110, if_neg h114, if_neg h116, if_pos h120]))
      have e120 : ((s[i + 1].toNat : Int) == 120) = true := beq_iff_eq.2 h120
      clear HE h110 h114 h116 h120
      go_enter Tryz.func189, Tryz.ntmps189
      go_wp2_with fail
      refine (HX.out _).mono ?_
      rintro e w' ⟨rfl, rfl⟩
      cases hq : rdHex s i with
      | none =>
        rw [hq] at HF
        clear HX hq
        dsimp only [itV]
        go_wp2
        go_ret3
        exact ⟨by rw [HF.out]; rfl, rfl⟩
      | some q =>
        obtain ⟨qb, qn⟩ := q
        rw [hq] at HF
        clear HX hq
        dsimp only [itV]
        go_wp2
        go_ret3
        exact ⟨by rw [HF.out]; rfl, rfl⟩
    have e120 : ((s[i + 1].toNat : Int) == 120) = false := beq_eq_false_iff_ne.2 h120
    cases hg : signB (s[i + 1].toNat : Int)
    · have HF := (show Hid (rdEsc s i = none) from (by show rdEsc s i = _; rw [HE.out]; rw [if_neg h110, if_neg h114, if_neg h116, if_neg h120, if_neg (by rw [hg]; simp)]))
      clear HE HX h110 h114 h116 h120
      go_enter Tryz.func189, Tryz.ntmps189
      go_wp2_with fail
      refine (isSign_any _ _).mono ?_
      rintro e w' ⟨rfl, rfl⟩
      go_wp2
      go_ret3
      exact ⟨by rw [HF.out]; rfl, rfl⟩
    · have HF := (show Hid (rdEsc s i = some ((s[i + 1].toNat : Int).toNat, i + 2)) from (by show rdEsc s i = _; rw [HE.out]; rw [if_neg h110, if_neg h114, if_neg h116, if_neg h120, if_pos (by rw [hg])]))
      clear HE HX h110 h114 h116 h120
      go_enter Tryz.func189, Tryz.ntmps189
      go_wp2_with fail
      refine (isSign_any _ _).mono ?_
      rintro e w' ⟨rfl, rfl⟩
      go_wp2
      go_ret3
      exact ⟨by rw [HF.out]; exact ret_it (by omega) (by omega), rfl⟩
  · have HE : Hid (rdEsc s i = none) := (by show rdEsc s i = none; unfold rdEsc; rw [chr_out h]; rfl)
    have h1 : ¬ (i : Int) + 1 < (s.size : Int) := by omega
    go_enter Tryz.func189, Tryz.ntmps189
    go_wp2
    go_ret3
    exact ⟨by rw [HE.out]; rfl, rfl⟩

set_option maxRecDepth 100000 in
set_option maxHeartbeats 1000000 in
theorem readItem_any (s : ByteArray) (i : Nat) (hs : s.size ≤ 140737488355328) (w : World) :
    Calls Tryz.prog 179 #[.string s, .int .i64 i] w fun e w' => e = .returned (itV (rdItem s i)) ∧ w' = w := by
  by_cases h : i < s.size
  · have HX : Hid (∀ w, Calls Tryz.prog 189 #[.string s, .int .i64 i] w fun e w' => e = .returned (itV (rdEsc s i)) ∧ w' = w) := fun w => readEsc_any s i h hs w
    have hb : (0 : Int) ≤ (s[i].toNat : Int) ∧ (s[i].toNat : Int) ≤ 255 := by have := s[i].toNat_lt; omega
    have hw8 : IntKind.i64.wrap (s[i].toNat : Int) = (s[i].toNat : Int) := by rw [IntKind.wrap_i64]; omega
    have HE : Hid (rdItem s i = if (s[i].toNat : Int) = 92 then rdEsc s i else if (s[i].toNat : Int) = 93 ∨ (s[i].toNat : Int) = 45 ∨ (s[i].toNat : Int) = 37 ∨ prnB (s[i].toNat : Int) = false then none else some ((s[i].toNat : Int).toNat, i + 1)) := (by show rdItem s i = _; unfold rdItem; rw [chr_in h])
    by_cases h92 : (s[i].toNat : Int) = 92
    · have HF := (show Hid (rdItem s i = rdEsc s i) from (by show rdItem s i = _; rw [HE.out]; rw [if_pos h92]))
      have e92 : ((s[i].toNat : Int) == 92) = true := beq_iff_eq.2 h92
      clear HE h92
      go_enter Tryz.func179, Tryz.ntmps179
      go_wp2_with fail
      refine (HX.out _).mono ?_
      rintro e w' ⟨rfl, rfl⟩
      cases hq : rdEsc s i with
      | none =>
        rw [hq] at HF
        clear HX hq
        dsimp only [itV]
        go_wp2
        go_ret3
        exact ⟨by rw [HF.out]; rfl, rfl⟩
      | some q =>
        obtain ⟨qb, qn⟩ := q
        rw [hq] at HF
        clear HX hq
        dsimp only [itV]
        go_wp2
        go_ret3
        exact ⟨by rw [HF.out]; rfl, rfl⟩
    have e92 : ((s[i].toNat : Int) == 92) = false := beq_eq_false_iff_ne.2 h92
    clear HX
    by_cases h93 : (s[i].toNat : Int) = 93
    · have HF := (show Hid (rdItem s i = none) from (by show rdItem s i = _; rw [HE.out, if_neg h92, if_pos (.inl h93)]))
      have e93 : ((s[i].toNat : Int) == 93) = true := beq_iff_eq.2 h93
      clear HE h92 h93
      go_enter Tryz.func179, Tryz.ntmps179
      go_wp2
      go_ret3
      exact ⟨by rw [HF.out]; rfl, rfl⟩
    have e93 : ((s[i].toNat : Int) == 93) = false := beq_eq_false_iff_ne.2 h93
    by_cases h45 : (s[i].toNat : Int) = 45
    · have HF := (show Hid (rdItem s i = none) from (by show rdItem s i = _; rw [HE.out, if_neg h92, if_pos (.inr (.inl h45))]))
      have e45 : ((s[i].toNat : Int) == 45) = true := beq_iff_eq.2 h45
      clear HE h92 h93 h45
      go_enter Tryz.func179, Tryz.ntmps179
      go_wp2
      go_ret3
      exact ⟨by rw [HF.out]; rfl, rfl⟩
    have e45 : ((s[i].toNat : Int) == 45) = false := beq_eq_false_iff_ne.2 h45
    by_cases h37 : (s[i].toNat : Int) = 37
    · have HF := (show Hid (rdItem s i = none) from (by show rdItem s i = _; rw [HE.out, if_neg h92, if_pos (.inr (.inr (.inl h37)))]))
      have e37 : ((s[i].toNat : Int) == 37) = true := beq_iff_eq.2 h37
      clear HE h92 h93 h45 h37
      go_enter Tryz.func179, Tryz.ntmps179
      go_wp2
      go_ret3
      exact ⟨by rw [HF.out]; rfl, rfl⟩
    have e37 : ((s[i].toNat : Int) == 37) = false := beq_eq_false_iff_ne.2 h37
    cases hg : prnB (s[i].toNat : Int)
    · have HF := (show Hid (rdItem s i = none) from (by show rdItem s i = _; rw [HE.out, if_neg h92, if_pos (.inr (.inr (.inr hg)))]))
      clear HE h92 h93 h45 h37
      go_enter Tryz.func179, Tryz.ntmps179
      go_wp2_with fail
      refine (isPrintable_any _ _).mono ?_
      rintro e w' ⟨rfl, rfl⟩
      go_wp2
      go_ret3
      exact ⟨by rw [HF.out]; rfl, rfl⟩
    · have HF := (show Hid (rdItem s i = some ((s[i].toNat : Int).toNat, i + 1)) from (by show rdItem s i = _; rw [HE.out, if_neg h92, if_neg (by rw [hg]; simp; omega)]))
      clear HE h92 h93 h45 h37
      go_enter Tryz.func179, Tryz.ntmps179
      go_wp2_with fail
      refine (isPrintable_any _ _).mono ?_
      rintro e w' ⟨rfl, rfl⟩
      go_wp2
      go_ret3
      exact ⟨by rw [HF.out]; exact ret_it (by omega) (by omega), rfl⟩
  · have HE : Hid (rdItem s i = none) := (by show rdItem s i = none; unfold rdItem; rw [chr_out h]; rfl)
    have h1 : ¬ (i : Int) < (s.size : Int) := by omega
    go_enter Tryz.func179, Tryz.ntmps179
    go_wp2
    go_ret3
    exact ⟨by rw [HE.out]; rfl, rfl⟩
end Go.Proofs.YtkihfkcmcdiajaaGreatDoor

namespace Go.Proofs.YtkihfkcmcdiajaaGreatDoor
open Go.RowKit
theorem below_box (w : World) (o : Obj) : Below w.heap.size w (w.alloc o) := Below.alloc (Below.refl _ _) (Nat.le_refl _) o
abbrev tkC (t : Tk) : Array Value := #[.int .i64 t.kd, .int .i64 t.nn, .int .i64 t.fr, .int .i64 t.en, .string t.tx, .int .u64 t.s0, .int .u64 t.s1, .int .u64 t.s2, .int .u64 t.s3]
abbrev tkO (t : Tk) : Obj := .cells #[.int .i64 t.kd, .int .i64 t.nn, .int .i64 t.fr, .int .i64 t.en, .string t.tx, .int .u64 t.s0, .int .u64 t.s1, .int .u64 t.s2, .int .u64 t.s3] 79
structure TX (W : World) (b : Nat) (t : Tk) : Prop where
  heap : W.heap[b]? = some (.cells (tkC t) 79 (0, 0))
theorem TX.lt {W : World} {b : Nat} {t : Tk} (h : TX W b t) : b < W.heap.size := (Array.getElem?_eq_some_iff.1 h.heap).1
theorem TX.same {W W' : World} {b : Nat} {t : Tk} (h : TX W b t) (hb : W'.heap[b]? = W.heap[b]?) : TX W' b t := ⟨hb.trans h.heap⟩
theorem TX.below {W W' : World} {b : Nat} {t : Tk} (h : TX W b t) (hb : Below W.heap.size W W') : TX W' b t := h.same (hb.block b h.lt)
theorem TX.new (W : World) (t : Tk) : TX (W.alloc (tkO t)) W.heap.size t := ⟨heap_alloc_new W _⟩
/-- Its cells. -/
structure TC (W : World) (b : Nat) (t : Tk) : Prop where
  c0 : W.cell? ⟨b, 0, none⟩ = some (.int .i64 t.kd)
  c1 : W.cell? ⟨b, 1, none⟩ = some (.int .i64 t.nn)
  c2 : W.cell? ⟨b, 2, none⟩ = some (.int .i64 t.fr)
  c3 : W.cell? ⟨b, 3, none⟩ = some (.int .i64 t.en)
  c4 : W.cell? ⟨b, 4, none⟩ = some (.string t.tx)
  c5 : W.cell? ⟨b, 5, none⟩ = some (.int .u64 t.s0)
  c6 : W.cell? ⟨b, 6, none⟩ = some (.int .u64 t.s1)
  c7 : W.cell? ⟨b, 7, none⟩ = some (.int .u64 t.s2)
  c8 : W.cell? ⟨b, 8, none⟩ = some (.int .u64 t.s3)
structure TF (W : World) (b : Nat) : Prop where
  f0 : W.frozen? ⟨b, 0, none⟩ = false
  f1 : W.frozen? ⟨b, 1, none⟩ = false
  f2 : W.frozen? ⟨b, 2, none⟩ = false
  f3 : W.frozen? ⟨b, 3, none⟩ = false
  f4 : W.frozen? ⟨b, 4, none⟩ = false
  f5 : W.frozen? ⟨b, 5, none⟩ = false
  f6 : W.frozen? ⟨b, 6, none⟩ = false
  f7 : W.frozen? ⟨b, 7, none⟩ = false
  f8 : W.frozen? ⟨b, 8, none⟩ = false
theorem TX.cells {W : World} {b : Nat} {t : Tk} (h : TX W b t) : TC W b t := by
  have key : ∀ (j : Nat) u, (tkC t)[j]? = some u → W.cell? ⟨b, j, none⟩ = some u := fun j u hu => by
    rw [cell_of_row W b j _ 79 (0, 0) h.heap]; exact hu
  exact ⟨key 0 _ rfl, key 1 _ rfl, key 2 _ rfl, key 3 _ rfl, key 4 _ rfl, key 5 _ rfl, key 6 _ rfl, key 7 _ rfl, key 8 _ rfl⟩
theorem TX.fz {W : World} {b : Nat} {t : Tk} (h : TX W b t) : TF W b := ⟨frozen_of_row W b 0 _ 79 h.heap, frozen_of_row W b 1 _ 79 h.heap, frozen_of_row W b 2 _ 79 h.heap, frozen_of_row W b 3 _ 79 h.heap, frozen_of_row W b 4 _ 79 h.heap, frozen_of_row W b 5 _ 79 h.heap, frozen_of_row W b 6 _ 79 h.heap, frozen_of_row W b 7 _ 79 h.heap, frozen_of_row W b 8 _ 79 h.heap⟩
/-- A token laid into a box. -/
abbrev st9 (W : World) (b : Nat) (t : Tk) : World := ((((((((W.setCell ⟨b, 0, none⟩ (.int .i64 t.kd)).setCell ⟨b, 1, none⟩ (.int .i64 t.nn)).setCell ⟨b, 2, none⟩ (.int .i64 t.fr)).setCell ⟨b, 3, none⟩ (.int .i64 t.en)).setCell ⟨b, 4, none⟩ (.string t.tx)).setCell ⟨b, 5, none⟩ (.int .u64 t.s0)).setCell ⟨b, 6, none⟩ (.int .u64 t.s1)).setCell ⟨b, 7, none⟩ (.int .u64 t.s2)).setCell ⟨b, 8, none⟩ (.int .u64 t.s3)
set_option maxHeartbeats 2000000 in
theorem st9_tx {W : World} {b : Nat} {t0 : Tk} (h : TX W b t0) (t : Tk) : TX (st9 W b t) b t := by
  have h := h.heap
  have h0 := heap_setCell_same _ b 0 _ 79 (.int .i64 t.kd) h
  have h1 := heap_setCell_same _ b 1 _ 79 (.int .i64 t.nn) h0
  have h2 := heap_setCell_same _ b 2 _ 79 (.int .i64 t.fr) h1
  have h3 := heap_setCell_same _ b 3 _ 79 (.int .i64 t.en) h2
  have h4 := heap_setCell_same _ b 4 _ 79 (.string t.tx) h3
  have h5 := heap_setCell_same _ b 5 _ 79 (.int .u64 t.s0) h4
  have h6 := heap_setCell_same _ b 6 _ 79 (.int .u64 t.s1) h5
  have h7 := heap_setCell_same _ b 7 _ 79 (.int .u64 t.s2) h6
  have h8 := heap_setCell_same _ b 8 _ 79 (.int .u64 t.s3) h7
  refine ⟨?_⟩
  rw [h8]
  simp
theorem st9_below {B : Nat} {w W : World} {b : Nat} (h : Below B w W) (hb : B ≤ b) (t : Tk) : Below B w (st9 W b t) := ((((((((h.setCell (p := ⟨b, 0, none⟩) hb _).setCell (p := ⟨b, 1, none⟩) hb _).setCell (p := ⟨b, 2, none⟩) hb _).setCell (p := ⟨b, 3, none⟩) hb _).setCell (p := ⟨b, 4, none⟩) hb _).setCell (p := ⟨b, 5, none⟩) hb _).setCell (p := ⟨b, 6, none⟩) hb _).setCell (p := ⟨b, 7, none⟩) hb _).setCell (p := ⟨b, 8, none⟩) hb _
end Go.Proofs.YtkihfkcmcdiajaaGreatDoor

namespace Go.Proofs.YtkihfkcmcdiajaaGreatDoor
open Go.RowKit
def lnB (c : Int) : Bool := decide (0 ≤ c) && !(c == 10)
def gpGo (s : ByteArray) : Nat → Nat → Nat
  | 0, i => i
  | f + 1, i => if i < s.size then (if chr s i = 45 ∧ chr s (i + 1) = 45 then gpGo s f (spN lnB s i) else if chr s i = 9 ∨ chr s i = 10 ∨ chr s i = 13 ∨ chr s i = 32 then gpGo s f (i + 1) else i) else i
def gapN (s : ByteArray) (i : Nat) : Nat := gpGo s (s.size + 1) i
end Go.Proofs.YtkihfkcmcdiajaaGreatDoor

namespace Go.Proofs.YtkihfkcmcdiajaaGreatDoor
open Go.RowKit
def esV (i : Nat) : Option (Nat × Nat) → Value
  | some p => .tuple #[.int .i64 p.1, .int .i64 p.2]
  | none => .tuple #[.int .i64 (-1), .int .i64 i]
end Go.Proofs.YtkihfkcmcdiajaaGreatDoor

namespace Go.Proofs.YtkihfkcmcdiajaaGreatDoor
open Go.RowKit
theorem own_form {W : World} {B e s n : Nat} {v : Value} {xs : List Value} (h : W.ownsRow B e s v n xs) : ∃ A c, v = .slice A n c := by
  rcases h.2 with ⟨rfl, h0⟩ | ⟨g, cap, cur, rfl, _⟩
  · exact ⟨none, 0, by rw [h0]⟩
  · exact ⟨_, cap, rfl⟩
theorem TX.grown {W W' : World} {b : Nat} {t : Tk} {X : Option Nat} (h : TX W b t) (hg : W.grownBy W' X) (hx : X ≠ some b) : TX W' b t := h.same (hg.block b h.lt (fun e => hx e.symm))
/-- While a literal is read. -/
structure AtT (w wr : World) (s : ByteArray) (b : Nat) (v : Value) (out : List Int) (i f : Nat) : Prop where
  hb : Below w.heap.size w wr
  hx : TX wr w.heap.size tk0
  ho : wr.ownsRow (w.heap.size + 1) 5 1 v out.length (out.map (Value.int .u8))
  hi : i ≤ s.size
  hf : s.size < f + i
  he : litGo s (chr s b) b f out i = litR s b
  hl : out.length ≤ i
end Go.Proofs.YtkihfkcmcdiajaaGreatDoor

namespace Go.Proofs.YtkihfkcmcdiajaaGreatDoor
open Go.RowKit
theorem ownB {W W' : World} {B e s n : Nat} {v : Value} {xs : List Value} (h : W.ownsRow B e s v n xs) (hb : Below W.heap.size W W') : W'.ownsRow B e s v n xs := by
  refine ⟨h.1, ?_⟩
  rcases h.2 with hn | ⟨g, cap, cur, rfl, hB, hgg, rest⟩
  · exact .inl hn
  · refine .inr ⟨g, cap, cur, rfl, hB, ?_, rest⟩
    rw [hb.block g (Array.getElem?_eq_some_iff.1 hgg).1]
    exact hgg
theorem gpGo_bd (s : ByteArray) : ∀ f i, i ≤ s.size → i ≤ gpGo s f i ∧ gpGo s f i ≤ s.size := by
  intro f
  induction f with
  | zero => intro i hi; exact ⟨Nat.le_refl _, hi⟩
  | succ f ih =>
    intro i hi
    rw [gpGo]
    split
    · split
      · have h1 := spN_ge lnB s (by decide) i
        have h2 := spN_le lnB s (by decide) i hi
        obtain ⟨a, b⟩ := ih (spN lnB s i) h2
        exact ⟨by omega, b⟩
      · split
        · obtain ⟨a, b⟩ := ih (i + 1) (by omega)
          exact ⟨by omega, b⟩
        · exact ⟨Nat.le_refl _, hi⟩
    · exact ⟨Nat.le_refl _, hi⟩
theorem gapN_bd {s : ByteArray} {i : Nat} (h : i ≤ s.size) : i ≤ gapN s i ∧ gapN s i ≤ s.size := gpGo_bd s _ i h
def tkV (t : Tk) : List Value := [.int .i64 t.kd, .int .i64 t.nn, .int .i64 t.fr, .int .i64 t.en, .string t.tx, .int .u64 t.s0, .int .u64 t.s1, .int .u64 t.s2, .int .u64 t.s3]
def tkc (l : List Tk) : List Value := l.flatMap tkV
theorem tkc_append (a b : List Tk) : tkc (a ++ b) = tkc a ++ tkc b := List.flatMap_append
theorem tkc_one (t : Tk) : tkc [t] = tkV t := by unfold tkc; rw [List.flatMap_cons, List.flatMap_nil, List.append_nil]
theorem tk_one (t : Tk) : ∀ u ∈ tkV t, u.oneCell' = true := fun u hu => by
  simp only [tkV, List.mem_cons, List.not_mem_nil, or_false] at hu
  rcases hu with rfl | rfl | rfl | rfl | rfl | rfl | rfl | rfl | rfl <;> rfl
def lexGo (one : Nat → Sum Tk (Nat × Int)) (s : ByteArray) : Nat → List Tk → Nat → Sum (List Tk) (Nat × Int)
  | 0, out, _ => .inl out
  | f + 1, out, i => if i < s.size then (match one i with
    | .inr q => .inr q
    | .inl t => lexGo one s f (out ++ [t]) (gapN s t.en.toNat)) else .inl out
def lexR (one : Nat → Sum Tk (Nat × Int)) (s : ByteArray) : Sum (List Tk) (Nat × Int) := if 65536 < s.size then .inr (0, 2) else lexGo one s (s.size + 1) [] (gapN s 0)
theorem Tryz.info36 : (Tryz.prog.info? 79).map (fun i => (i.zero, i.size, i.bytes)) = some (some (tkG tk0), 9, 80) := by kernel_rfl
end Go.Proofs.YtkihfkcmcdiajaaGreatDoor

namespace Go.Proofs.YtkihfkcmcdiajaaGreatDoor
open Go.RowKit
theorem eq26 (a b c d : Int) (w : World) : (Op.equalIn 10000 27 (.agg #[.int .i64 a, .int .i64 b]) (.agg #[.int .i64 c, .int .i64 d])).run Tryz.prog w = .ok (a == c && b == d) w := by
  have u3 := Tryz.underlying3
  have a3 := Tryz.isAgg3
  have z3 := Tryz.sizeOf3
  have u4 := Tryz.underlying25
  have a4 := Tryz.isAgg25
  have z4 := Tryz.sizeOf25
  have hS : Tryz.prog.underlying 27 = some (.struct (Tryz.prog.fieldsOf 27)) := by kernel_rfl
  have hp : Tryz.prog.stoodInHeld 27 = false := by kernel_rfl
  rw [show (10000 : Nat) = 9999 + 1 from rfl, run_equalIn_agg w 9999 27 _ _ hS hp]
  simp only [Program.fieldsOf, Tryz.underlying27]
  go_simp
  by_cases h1 : a = c <;> by_cases h2 : b = d <;> simp [h1, h2]
/-- A token's cells in a row. -/
structure TR (W : World) (g o : Nat) (t : Tk) : Prop where
  c0 : W.cell? ⟨g, o, none⟩ = some (.int .i64 t.kd)
  c1 : W.cell? ⟨g, o + 1, none⟩ = some (.int .i64 t.nn)
  c2 : W.cell? ⟨g, o + 2, none⟩ = some (.int .i64 t.fr)
  c3 : W.cell? ⟨g, o + 3, none⟩ = some (.int .i64 t.en)
  c4 : W.cell? ⟨g, o + 4, none⟩ = some (.string t.tx)
  c5 : W.cell? ⟨g, o + 5, none⟩ = some (.int .u64 t.s0)
  c6 : W.cell? ⟨g, o + 6, none⟩ = some (.int .u64 t.s1)
  c7 : W.cell? ⟨g, o + 7, none⟩ = some (.int .u64 t.s2)
  c8 : W.cell? ⟨g, o + 8, none⟩ = some (.int .u64 t.s3)
/-- A slice reads as a list of tokens. -/
structure RdT (W : World) (A : Option Addr) (L : List Tk) : Prop where
  rd : L ≠ [] → ∃ g, A = some ⟨g, 0, none⟩ ∧ g < W.heap.size ∧ ∀ (k : Nat) t, L[k]? = some t → TR W g (k * 9) t
theorem RdT.later {W W' : World} {A : Option Addr} {L : List Tk} (h : RdT W A L) (hb : Below W.heap.size W W') : RdT W' A L := ⟨fun hne => by
  obtain ⟨g, e, lt, hc⟩ := h.rd hne
  have key : ∀ j, W'.cell? ⟨g, j, none⟩ = W.cell? ⟨g, j, none⟩ := fun j => hb.cell (p := ⟨g, j, none⟩) lt
  refine ⟨g, e, Nat.lt_of_lt_of_le lt hb.size, fun k t hk => ?_⟩
  obtain ⟨c0, c1, c2, c3, c4, c5, c6, c7, c8⟩ := hc k t hk
  exact ⟨(key _).trans c0, (key _).trans c1, (key _).trans c2, (key _).trans c3, (key _).trans c4, (key _).trans c5, (key _).trans c6, (key _).trans c7, (key _).trans c8⟩⟩
theorem tkc_get (L : List Tk) : ∀ (k j : Nat) (t : Tk) (u : Value), L[k]? = some t → (tkV t)[j]? = some u → (tkc L)[k * 9 + j]? = some u := by
  induction L with
  | nil => intro k j t u h; simp at h
  | cons a L ih =>
    intro k j t u h hj
    have e : tkc (a :: L) = tkV a ++ tkc L := by unfold tkc; rw [List.flatMap_cons]
    have hl : (tkV a).length = 9 := rfl
    rw [e]
    cases k with
    | zero =>
      have h : a = t := by simpa using h
      subst h
      rw [Nat.zero_mul, Nat.zero_add, List.getElem?_append_left (by have := (List.getElem?_eq_some_iff.1 hj).1; omega)]
      exact hj
    | succ k =>
      rw [List.getElem?_append_right (by omega), hl, show (k + 1) * 9 + j - 9 = k * 9 + j from by omega]
      exact ih k j t u (by simpa using h) hj
theorem own_rdt {W : World} {B n : Nat} {v : Value} {L : List Tk} (h : W.ownsRow B 79 9 v n (tkc L)) (hn : n = L.length) : ∃ A c, v = .slice A L.length c ∧ RdT W A L := by
  subst hn
  have hc := h
  rcases h.2 with ⟨rfl, h0⟩ | ⟨g, cap, cur, rfl, _⟩
  · exact ⟨none, 0, by rw [h0], ⟨fun hl => absurd (List.eq_nil_of_length_eq_zero h0) hl⟩⟩
  · refine ⟨_, cap, rfl, ⟨fun _ => ⟨g, rfl, (hc.lt g rfl).2, fun k t hk => ?_⟩⟩⟩
    have key : ∀ j u, (tkV t)[j]? = some u → W.cell? ⟨g, k * 9 + j, none⟩ = some u := fun j u hj => by
      have := (hc.cells (g := g) rfl) (k * 9 + j) u (tkc_get L k j t u hk hj)
      rwa [Addr.add_lit, Nat.zero_add] at this
    exact ⟨key 0 _ rfl, key 1 _ rfl, key 2 _ rfl, key 3 _ rfl, key 4 _ rfl, key 5 _ rfl, key 6 _ rfl, key 7 _ rfl, key 8 _ rfl⟩
end Go.Proofs.YtkihfkcmcdiajaaGreatDoor

namespace Go.Proofs.YtkihfkcmcdiajaaGreatDoor
open Go.RowKit
def hxB (c : Int) : Bool := dgB c || (decide (97 ≤ c) && decide (c ≤ 102))
def blB (c : Int) : Bool := c == 9 || c == 10 || c == 13 || c == 32
set_option maxRecDepth 100000 in
set_option maxHeartbeats 4000000 in
theorem pbegins_any (c : Int) (w : World) : Calls Tryz.prog 101 #[.int .u8 c] w fun e w' => e = .returned (.bool (hdB c)) ∧ w' = w := by
  by_cases a1 : 97 ≤ c <;> by_cases a2 : c ≤ 122 <;> by_cases a3 : 65 ≤ c <;> by_cases a4 : c ≤ 90 <;> by_cases a5 : c = 95 <;> first
    | (exfalso; omega)
    | (subst a5; go_enter Tryz.func101, Tryz.ntmps101; go_wp2_with fail; go_ret; exact ⟨rfl, rfl⟩)
    | (have a6 : (c == 95) = false := beq_eq_false_iff_ne.2 a5; go_enter Tryz.func101, Tryz.ntmps101; go_wp2_with fail; go_ret; exact ⟨by simp [hdB, *], rfl⟩)
set_option maxRecDepth 100000 in
set_option maxHeartbeats 4000000 in
theorem pdigit_any (c : Int) (w : World) : Calls Tryz.prog 103 #[.int .u8 c] w fun e w' => e = .returned (.bool (dgB c)) ∧ w' = w := by
  by_cases a1 : 48 ≤ c <;> by_cases a2 : c ≤ 57 <;> first
    | (exfalso; omega)
    | (go_enter Tryz.func103, Tryz.ntmps103; go_wp2_with fail; go_ret; exact ⟨by simp [dgB, *], rfl⟩)
set_option maxRecDepth 100000 in
set_option maxHeartbeats 4000000 in
theorem pofname_any (c : Int) (w : World) : Calls Tryz.prog 127 #[.int .u8 c] w fun e w' => e = .returned (.bool (nmB c)) ∧ w' = w := by
  have HH : Hid (∀ w, Calls Tryz.prog 101 #[.int .u8 c] w fun e w' => e = .returned (.bool (hdB c)) ∧ w' = w) := fun w => pbegins_any c w
  have HD : Hid (∀ w, Calls Tryz.prog 103 #[.int .u8 c] w fun e w' => e = .returned (.bool (dgB c)) ∧ w' = w) := fun w => pdigit_any c w
  cases hh : hdB c with
  | true =>
    have HE : Hid (nmB c = true) := by show nmB c = true; unfold nmB; rw [hh]; rfl
    rw [hh] at HH
    clear HD hh
    go_enter Tryz.func127, Tryz.ntmps127
    go_wp2_with fail
    refine (HH.out _).mono ?_
    rintro e w ⟨rfl, rfl⟩
    go_wp2_with fail
    go_ret
    exact ⟨by rw [HE.out]; rfl, rfl⟩
  | false =>
    have HE : Hid (nmB c = dgB c) := by show nmB c = _; unfold nmB; rw [hh]; rfl
    rw [hh] at HH
    clear hh
    go_enter Tryz.func127, Tryz.ntmps127
    go_wp2_with fail
    refine (HH.out _).mono ?_
    rintro e w ⟨rfl, rfl⟩
    go_wp2_with fail
    refine (HD.out _).mono ?_
    rintro e w ⟨rfl, rfl⟩
    go_wp2_with fail
    go_ret
    exact ⟨by rw [HE.out]; rfl, rfl⟩
set_option maxRecDepth 100000 in
set_option maxHeartbeats 4000000 in
theorem phexd_any (c : Int) (w : World) : Calls Tryz.prog 162 #[.int .u8 c] w fun e w' => e = .returned (.bool (hxB c)) ∧ w' = w := by
  have HD : Hid (∀ w, Calls Tryz.prog 103 #[.int .u8 c] w fun e w' => e = .returned (.bool (dgB c)) ∧ w' = w) := fun w => pdigit_any c w
  cases hh : dgB c with
  | true =>
    have HE : Hid (hxB c = true) := by show hxB c = true; unfold hxB; rw [hh]; rfl
    rw [hh] at HD
    clear hh
    go_enter Tryz.func162, Tryz.ntmps162
    go_wp2_with fail
    refine (HD.out _).mono ?_
    rintro e w ⟨rfl, rfl⟩
    go_wp2_with fail
    go_ret
    exact ⟨by rw [HE.out]; rfl, rfl⟩
  | false =>
    have HE : Hid (hxB c = (decide (97 ≤ c) && decide (c ≤ 102))) := by show hxB c = _; unfold hxB; rw [hh]; rfl
    rw [hh] at HD
    clear hh
    by_cases a1 : 97 ≤ c <;> by_cases a2 : c ≤ 102 <;> first
      | (exfalso; omega)
      | (go_enter Tryz.func162, Tryz.ntmps162
         go_wp2_with fail
         refine (HD.out _).mono ?_
         rintro e w ⟨rfl, rfl⟩
         go_wp2_with fail
         go_ret
         exact ⟨by rw [HE.out]; simp [*], rfl⟩)
set_option maxRecDepth 100000 in
set_option maxHeartbeats 4000000 in
theorem runEnd_of (F : Nat) (P : Int → Bool) (hn : P (-1) = false) (he : ∀ args w, (callFunc F args).run Tryz.prog w = .ok (.enter F args) w)
    (HC : ∀ c w, Calls Tryz.prog F #[.int .u8 c] w fun e w' => e = .returned (.bool (P c)) ∧ w' = w) (s : ByteArray) (i : Nat) (hs : s.size ≤ 140737488355328) (hi : i ≤ s.size) (w : World) :
    Calls Tryz.prog 126 #[.string s, .int .i64 i, .func (.func F) #[] #[]] w fun e w' => e = .returned (.int .i64 (spN P s i)) ∧ w' = w := by
  have HP : Hid (∀ k (h : k < s.size) w, Calls Tryz.prog F #[.int .u8 (s[k].toNat : Int)] w fun e w' => e = .returned (.bool (P (chr s k))) ∧ w' = w) := fun k h w => by rw [chr_in h]; exact HC _ w
  have HN : Hid (∀ k, P (chr s k) = true → spN P s k = spN P s (k + 1)) := fun k h => (spN_next hn h).2
  have HS : Hid (∀ k, P (chr s k) = false → spN P s k = k) := fun k h => spN_stop h
  have HO : Hid (∀ k, ¬ k < s.size → spN P s k = k) := fun k h => spN_stop (by rw [chr_out h]; exact hn)
  clear HC
  go_enter Tryz.func126, Tryz.ntmps126
  go_wp2_with fail
  go_loopw [1] (fun t wr => ∃ k : Nat, k ≤ s.size ∧ t = .int .i64 k ∧ wr = w ∧ Hid (spN P s k = spN P s i)) (fun t _ => s.size - (intOf t).toNat)
  case atStart => exact ⟨i, hi, rfl, rfl, rfl⟩
  case round =>
    obtain ⟨k, hk, rfl, rfl, HI⟩ := hrel
    have z0 : (0 : Int) ≤ (k : Int) := by omega
    by_cases h1 : k < s.size
    · have z1 : (k : Int) < (s.size : Int) := by omega
      have HPk := (show Hid _ from HP.out k h1)
      cases hp : P (chr s k) with
      | true =>
        have HI2 : Hid (spN P s (k + 1) = spN P s i) := (HN.out k hp).symm.trans HI.out
        rw [hp] at HPk
        clear HP HN HS HO hp HI
        go_wp2_with fail
        refine (HPk.out _).mono ?_
        rintro e w ⟨rfl, rfl⟩
        go_wp2_with fail
        go_roundw
        case rel => exact ⟨k + 1, by omega, by go_num, trivial, HI2⟩
        case measure => simp [intOf]; omega
      | false =>
        have HI2 : Hid (spN P s i = k) := HI.out.symm.trans (HS.out k hp)
        rw [hp] at HPk
        clear HP HN HS HO hp HI
        go_wp2_with fail
        refine (HPk.out _).mono ?_
        rintro e w ⟨rfl, rfl⟩
        go_wp2_with fail
        go_ret
        exact ⟨by rw [HI2.out]; rfl, rfl⟩
    · have z1 : ¬ (k : Int) < (s.size : Int) := by omega
      have HI2 : Hid (spN P s i = k) := HI.out.symm.trans (HO.out k h1)
      clear HP HN HS HO HI
      go_wp2_with fail
      go_ret
      exact ⟨by rw [HI2.out]; rfl, rfl⟩
theorem runName_any (s : ByteArray) (i : Nat) (hs : s.size ≤ 140737488355328) (hi : i ≤ s.size) (w : World) :
    Calls Tryz.prog 126 #[.string s, .int .i64 i, .func (.func 127) #[] #[]] w fun e w' => e = .returned (.int .i64 (spN nmB s i)) ∧ w' = w := runEnd_of 127 nmB (by decide) (enters_of Tryz.func127 (by kernel_rfl) rfl) pofname_any s i hs hi w
theorem runDigit_any (s : ByteArray) (i : Nat) (hs : s.size ≤ 140737488355328) (hi : i ≤ s.size) (w : World) :
    Calls Tryz.prog 126 #[.string s, .int .i64 i, .func (.func 103) #[] #[]] w fun e w' => e = .returned (.int .i64 (spN dgB s i)) ∧ w' = w := runEnd_of 103 dgB (by decide) (enters_of Tryz.func103 (by kernel_rfl) rfl) pdigit_any s i hs hi w
theorem runHex_any (s : ByteArray) (i : Nat) (hs : s.size ≤ 140737488355328) (hi : i ≤ s.size) (w : World) :
    Calls Tryz.prog 126 #[.string s, .int .i64 i, .func (.func 162) #[] #[]] w fun e w' => e = .returned (.int .i64 (spN hxB s i)) ∧ w' = w := runEnd_of 162 hxB (by decide) (enters_of Tryz.func162 (by kernel_rfl) rfl) phexd_any s i hs hi w
end Go.Proofs.YtkihfkcmcdiajaaGreatDoor
