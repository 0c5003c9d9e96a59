/- Plain: a part of a right pattern is a right pattern, as high as it is there. -/
import Derived.Test.YtfomodpjdaclgabPlE
namespace Go.Proofs.Ytfomodpjdaclgab

theorem chn_one {L : List Nd} : ∀ (s1 s2 : List Pt) (k : Nat), Chn L k s1 → Chn L k s2 → s1 = s2 := by
  intro s1
  induction s1 with
  | nil =>
    intro s2 k h1 h2
    cases s2 with
    | nil => rfl
    | cons y r => have e : k = 0 := h1; have := h2.1; omega
  | cons x r ih =>
    intro s2 k h1 h2
    cases s2 with
    | nil => have e : k = 0 := h2; have := h1.1; omega
    | cons y r2 =>
      have hl : x.2.1 = y.2.1 := by have := h1.1; have := h2.1; omega
      have hxy : x = y := by rw [h1.2.1, h2.2.1, hl]
      subst hxy
      rw [ih r2 x.1 h1.2.2.2 h2.2.2.2]
theorem chn_at_eq {L : List Nd} (st : List Pt) (k m : Nat) (h1 : Chn L k st) (h2 : Chn L m st) : k = m := by
  cases st with
  | nil => have e1 : k = 0 := h1; have e2 : m = 0 := h2; omega
  | cons x r => have := h1.1; have := h2.1; omega
/-- Back from the end of a part: what lay free ahead of it stays below. -/
theorem run_back {L : List Nd} {j : Nat} (hj : j < L.length) (he : ∀ i, i ≤ j → er L i = 0) : ∀ d m, m + d = j + 1 → (pt L j).1 ≤ m → ∃ pre, run L m = pre ++ run L (pt L j).1 ∧ (m < j + 1 → arN (opAt L m) ≤ pre.length) := by
  have hc : ∀ m, m ≤ j + 1 → Chn L m (run L m) := fun m hm => chn_run L m (by omega) (fun i hi => he i (by omega))
  have hb : (pt L j).1 ≤ j := by
    have h := hc (j + 1) (by omega)
    rw [run_succ] at h
    have h1 := h.2.2.1
    rw [show (pt L j).2.1 = j from mk_last _ _ _ _] at h1
    exact h1
  intro d
  induction d with
  | zero =>
    intro m hm _
    have e : m = j + 1 := by omega
    subst e
    refine ⟨[pt L j], ?_, fun q => by omega⟩
    have h := hc (j + 1) (by omega)
    rw [run_succ] at h ⊢
    rw [chn_one _ _ _ h.2.2.2 (hc (pt L j).1 (by omega))]
    rfl
  | succ d ih =>
    intro m hm hbm
    obtain ⟨pre', h1, _⟩ := ih (m + 1) (by omega) (by omega)
    have hn : L[m]? = some L[m] := List.getElem?_eq_getElem (by omega)
    have hok := er_ok hn (he m (by omega))
    have har : arN (opAt L m) ≤ (run L m).length := by rw [op_of hn]; exact hok.ar
    cases pre' with
    | nil =>
      have h2 := hc (m + 1) (by omega)
      rw [h1] at h2
      have := chn_at_eq _ _ _ h2 (hc (pt L j).1 (by omega))
      omega
    | cons y pre'' =>
      rw [run_succ] at h1
      have h3 : (run L m).drop (arN (opAt L m)) = pre'' ++ run L (pt L j).1 := by
        have := List.cons.inj h1
        exact this.2
      refine ⟨(run L m).take (arN (opAt L m)) ++ pre'', ?_, fun _ => ?_⟩
      · rw [List.append_assoc, ← h3, List.take_append_drop]
      · rw [List.length_append, List.length_take]; omega
/-- A part of a right pattern, alone. -/
theorem part_right {A Q R : List Nd} {j : Nat} (hlen : ¬ 2048 < Q.length) (hq : A.length + Q.length = j + 1) (hb : (pt (A ++ (Q ++ R)) j).1 = A.length) (he : ∀ i, i ≤ j → er (A ++ (Q ++ R)) i = 0) :
    Rt Q ∧ ∀ k, k < Q.length → pt (A ++ (Q ++ R)) (A.length + k) = shP A.length (pt Q k) := by
  have hL : (A ++ (Q ++ R)).length = A.length + (Q.length + R.length) := by rw [List.length_append, List.length_append]
  have hbl : A.length ≤ j := by
    have h := chn_run (A ++ (Q ++ R)) (j + 1) (by omega) (fun i hi => he i (by omega))
    rw [run_succ] at h
    have h1 := h.2.2.1
    rw [show (pt (A ++ (Q ++ R)) j).2.1 = j from mk_last _ _ _ _, hb] at h1
    exact h1
  have hback := run_back (L := A ++ (Q ++ R)) (j := j) (by omega) he
  rw [hb] at hback
  have key : ∀ k, k ≤ Q.length → (∀ i, i < k → er Q i = 0) ∧ ∀ i, i < k → pt (A ++ (Q ++ R)) (A.length + i) = shP A.length (pt Q i) := by
    intro k
    induction k with
    | zero => intro _; exact ⟨fun i hi => by omega, fun i hi => by omega⟩
    | succ k ih =>
      intro hk
      obtain ⟨i1, i2⟩ := ih (by omega)
      have hm := run_mid A Q R k (by omega) i1
      obtain ⟨pre, p1, p2⟩ := hback (j + 1 - (A.length + k)) (A.length + k) (by omega) (by omega)
      rw [hm] at p1
      have hpre := List.append_cancel_right p1
      have har := p2 (by omega)
      rw [← hpre, List.length_map, opAt_mid A Q R k (by omega)] at har
      have hn : Q[k]? = some Q[k] := List.getElem?_eq_getElem (by omega)
      have hn2 : (A ++ (Q ++ R))[A.length + k]? = some Q[k] := by rw [get_mid A Q R k (by omega)]; exact hn
      have hok := er_ok hn2 (he (A.length + k) (by omega))
      have hpt : pt (A ++ (Q ++ R)) (A.length + k) = shP A.length (pt Q k) := by
        show mk _ _ (opAt (A ++ (Q ++ R)) (A.length + k)) _ = _
        rw [opAt_mid A Q R k (by omega), hm]
        exact mk_shift (L := A ++ (Q ++ R)) (Q := Q) (a := A.length) (m := Q.length) (fun i hi => opAt_mid A Q R i hi) k (opAt Q k) (run Q k) _ har (fun x hx => by
          have := (run_bd (by omega) i1 x hx).2.1
          omega)
      have hek : er Q k = 0 := by
        rw [er_of hn, if_neg (by rw [hok.al]; simp), if_neg (by rw [op_of hn] at har; omega), if_neg]
        have := hok.ht
        rw [hpt] at this
        have e : (shP A.length (pt Q k)).2.2 = (pt Q k).2.2 := rfl
        omega
      refine ⟨fun i hi => ?_, fun i hi => ?_⟩
      · by_cases q : i < k
        · exact i1 i q
        · obtain rfl : i = k := by omega
          exact hek
      · by_cases q : i < k
        · exact i2 i q
        · obtain rfl : i = k := by omega
          exact hpt
  obtain ⟨k1, k2⟩ := key Q.length (Nat.le_refl _)
  refine ⟨⟨hlen, k1, ?_⟩, k2⟩
  have hm := run_mid A Q R Q.length (Nat.le_refl _) k1
  rw [hq] at hm
  have h := chn_run (A ++ (Q ++ R)) (j + 1) (by omega) (fun i hi => he i (by omega))
  rw [run_succ] at h
  have hr := chn_one _ _ _ h.2.2.2 (by rw [hb]; exact chn_run (A ++ (Q ++ R)) A.length (by omega) (fun i hi => he i (by omega)))
  rw [run_succ, hr] at hm
  have h1 := congrArg List.length hm
  rw [List.length_cons, List.length_append, List.length_map] at h1
  omega
end Go.Proofs.Ytfomodpjdaclgab
