/-
  A value is read alike at each greater depth, and is too deep at a smaller one: of package json, on plain functions.
-/
import Derived.Test.YtljkeladdplhlaaDoorOke
namespace Go.Proofs.YtljkeladdplhlaaDoor
open Go.RowKit

theorem depthL_snoc (l : List J) (j : J) : depthL (l ++ [j]) = max (depthL l) (depthJ j) := by
  induction l with
  | nil => simp [depthL]
  | cons a t ih => rw [List.cons_append, depthL, depthL, ih, Nat.max_assoc]

/-- Two ways of reading a piece, one of which stops at a depth. -/
structure Stops {σ : Type} (φ : σ → Nat) (D : Nat) (step step' : List UInt8 → σ → σ × Nat × Nat) : Prop where
  up : ∀ l st s' m, step l st = (s', m, 0) → φ st ≤ φ s'
  on : ∀ l st s' m, step l st = (s', m, 0) → φ st ≤ D → φ s' ≤ D → step' l st = (s', m, 0)
  off : ∀ l st s' m, step l st = (s', m, 0) → φ st ≤ D → D < φ s' → (step' l st).2.2 = 7
theorem loopP_up {σ : Type} {φ : σ → Nat} {D : Nat} {step step' : List UInt8 → σ → σ × Nat × Nat} (h : Stops φ D step step') (endc : Nat) :
    ∀ (k : Nat) (l : List UInt8) (st : σ) (n : Nat) (r : σ) (N : Nat), loopP step endc k l st n = (r, N, 0) → φ st ≤ φ r := by
  intro k
  induction k with
  | zero => intro l st n r N e; simp [loopP] at e
  | succ k ih =>
    intro l st n r N e
    unfold loopP at e
    obtain ⟨s', m, x, hst⟩ : ∃ s' m x, step l st = (s', m, x) := ⟨_, _, _, rfl⟩
    rw [hst] at e
    simp only at e
    by_cases hx : x ≠ 0
    · rw [if_pos hx] at e; simp only [Prod.mk.injEq] at e; exact absurd e.2.2 hx
    · rw [if_neg hx] at e
      obtain rfl : x = 0 := Classical.not_not.1 hx
      have hu := h.up l st s' m hst
      generalize (l.drop m).drop (spaceL (l.drop m)) = rest at e
      cases rest with
      | nil => simp at e
      | cons c t =>
        simp only at e
        by_cases h1 : c.toNat = 44
        · rw [if_pos h1] at e
          exact Nat.le_trans hu (ih _ _ _ _ _ e)
        · rw [if_neg h1] at e
          by_cases h2 : c.toNat = endc
          · rw [if_pos h2] at e
            simp only [Prod.mk.injEq] at e
            rw [← e.1]; exact hu
          · rw [if_neg h2] at e; simp at e
theorem loopP_stops {σ : Type} {φ : σ → Nat} {D : Nat} {step step' : List UInt8 → σ → σ × Nat × Nat} (h : Stops φ D step step') (endc : Nat) :
    ∀ (k : Nat) (l : List UInt8) (st : σ) (n : Nat) (r : σ) (N : Nat), φ st ≤ D → loopP step endc k l st n = (r, N, 0) →
      (φ r ≤ D → loopP step' endc k l st n = (r, N, 0)) ∧ (D < φ r → (loopP step' endc k l st n).2.2 = 7) := by
  intro k
  induction k with
  | zero => intro l st n r N _ e; simp [loopP] at e
  | succ k ih =>
    intro l st n r N hD e
    unfold loopP at e ⊢
    obtain ⟨s', m, x, hst⟩ : ∃ s' m x, step l st = (s', m, x) := ⟨_, _, _, rfl⟩
    rw [hst] at e
    simp only at e
    by_cases hx : x ≠ 0
    · rw [if_pos hx] at e; simp only [Prod.mk.injEq] at e; exact absurd e.2.2 hx
    · rw [if_neg hx] at e
      obtain rfl : x = 0 := Classical.not_not.1 hx
      by_cases hs : φ s' ≤ D
      · have hon := h.on l st s' m hst hD hs
        rw [hon]
        simp only
        rw [if_neg (by simp)]
        generalize (l.drop m).drop (spaceL (l.drop m)) = rest at e
        cases rest with
        | nil => simp at e
        | cons c t =>
          simp only at e ⊢
          by_cases h1 : c.toNat = 44
          · rw [if_pos h1] at e ⊢
            exact ih _ _ _ _ _ hs e
          · rw [if_neg h1] at e ⊢
            by_cases h2 : c.toNat = endc
            · rw [if_pos h2] at e ⊢
              simp only [Prod.mk.injEq] at e
              obtain ⟨rfl, rfl, -⟩ := e
              exact ⟨fun _ => rfl, fun h => by omega⟩
            · rw [if_neg h2] at e; simp at e
      · have hoff := h.off l st s' m hst hD (by omega)
        have hr : φ s' ≤ φ r := by
          generalize (l.drop m).drop (spaceL (l.drop m)) = rest at e
          cases rest with
          | nil => simp at e
          | cons c t =>
            simp only at e
            by_cases h1 : c.toNat = 44
            · rw [if_pos h1] at e
              exact loopP_up h endc _ _ _ _ _ _ e
            · rw [if_neg h1] at e
              by_cases h2 : c.toNat = endc
              · rw [if_pos h2] at e
                simp only [Prod.mk.injEq] at e
                rw [e.1]; exact Nat.le_refl _
              · rw [if_neg h2] at e; simp at e
        refine ⟨fun h => by omega, fun _ => ?_⟩
        rw [if_pos (by rw [hoff]; decide)]
        exact hoff
theorem piecesP_stops {σ : Type} {φ : σ → Nat} {D : Nat} {step step' : List UInt8 → σ → σ × Nat × Nat} (h : Stops φ D step step') (endc : Nat) (l : List UInt8) (st r : σ) (N : Nat) (hD : φ st ≤ D) (e : piecesP step endc l st = (r, N, 0)) :
    (φ r ≤ D → piecesP step' endc l st = (r, N, 0)) ∧ (D < φ r → (piecesP step' endc l st).2.2 = 7) := by
  unfold piecesP at e ⊢
  by_cases hc : (((l.drop 1).drop (spaceL (l.drop 1))).getD 0 0).toNat = endc
  · rw [if_pos hc] at e ⊢
    simp only [Prod.mk.injEq] at e
    obtain ⟨rfl, rfl, -⟩ := e
    exact ⟨fun _ => rfl, fun h => by omega⟩
  · rw [if_neg hc] at e ⊢
    exact loopP_stops h endc _ _ _ _ _ _ hD e

/-- Two readers, one of which stops at a depth. -/
def StopsR (D : Nat) (rd rd' : List UInt8 → JR) : Prop := ∀ l j n, rd l = (j, n, 0) → (depthJ j ≤ D → rd' l = (j, n, 0)) ∧ (D < depthJ j → rd' l = jerr 7)
theorem stepL_stops {D : Nat} {rd rd' : List UInt8 → JR} (h : StopsR D rd rd') : Stops depthL D (stepL rd) (stepL rd') := by
  have key : ∀ l st s' m, stepL rd l st = (s', m, 0) → ∃ j, rd l = (j, m, 0) ∧ s' = st ++ [j] := fun l st s' m e => by
    unfold stepL at e
    obtain ⟨j, m', x, hr⟩ : ∃ j m' x, rd l = (j, m', x) := ⟨_, _, _, rfl⟩
    rw [hr] at e
    simp only [Prod.mk.injEq] at e
    obtain ⟨rfl, rfl, rfl⟩ := e
    exact ⟨j, hr, rfl⟩
  refine ⟨fun l st s' m e => ?_, fun l st s' m e h1 h2 => ?_, fun l st s' m e h1 h2 => ?_⟩
  · obtain ⟨j, hj, rfl⟩ := key l st s' m e
    rw [depthL_snoc]; exact Nat.le_max_left _ _
  · obtain ⟨j, hj, rfl⟩ := key l st s' m e
    rw [depthL_snoc] at h2
    unfold stepL
    rw [(h l j m hj).1 (by omega)]
  · obtain ⟨j, hj, rfl⟩ := key l st s' m e
    rw [depthL_snoc] at h2
    unfold stepL
    rw [(h l j m hj).2 (by omega)]
    rfl
theorem stepO_stops {D : Nat} {rd rd' : List UInt8 → JR} (h : StopsR D rd rd') : Stops (fun st => depthL st.2) D (stepO rd) (stepO rd') := by
  have key : ∀ l st s' m, stepO rd l st = (s', m, 0) → (unqL l).2.2 = 0 ∧ (unqL l).1 ∉ st.1 ∧ (colonL (l.drop (unqL l).2.1)).2 = 0 ∧ ∃ j n, rd (l.drop ((unqL l).2.1 + (colonL (l.drop (unqL l).2.1)).1)) = (j, n, 0) ∧ s' = (st.1 ++ [(unqL l).1], st.2 ++ [j]) ∧ m = (unqL l).2.1 + (colonL (l.drop (unqL l).2.1)).1 + n := fun l st s' m e => by
    unfold stepO at e
    by_cases c1 : (unqL l).2.2 ≠ 0
    · rw [if_pos c1] at e; simp only [Prod.mk.injEq] at e; exact absurd e.2.2 c1
    · rw [if_neg c1] at e
      by_cases c2 : (unqL l).1 ∈ st.1
      · rw [if_pos c2] at e; simp at e
      · rw [if_neg c2] at e
        by_cases c3 : (colonL (l.drop (unqL l).2.1)).2 ≠ 0
        · rw [if_pos c3] at e; simp only [Prod.mk.injEq] at e; exact absurd e.2.2 c3
        · rw [if_neg c3] at e
          obtain ⟨j, n, x, hr⟩ : ∃ j n x, rd (l.drop ((unqL l).2.1 + (colonL (l.drop (unqL l).2.1)).1)) = (j, n, x) := ⟨_, _, _, rfl⟩
          rw [hr] at e
          simp only [Prod.mk.injEq] at e
          obtain ⟨e1, e2, rfl⟩ := e
          exact ⟨Classical.not_not.1 c1, c2, Classical.not_not.1 c3, j, n, hr, e1.symm, e2.symm⟩
  refine ⟨fun l st s' m e => ?_, fun l st s' m e h1 h2 => ?_, fun l st s' m e h1 h2 => ?_⟩
  · obtain ⟨c1, c2, c3, j, n, hj, rfl, rfl⟩ := key l st s' m e
    show depthL st.2 ≤ depthL (st.2 ++ [j])
    rw [depthL_snoc]; exact Nat.le_max_left _ _
  · obtain ⟨c1, c2, c3, j, n, hj, rfl, rfl⟩ := key l st s' m e
    have h2' : depthL (st.2 ++ [j]) ≤ D := h2
    rw [depthL_snoc] at h2'
    unfold stepO
    rw [if_neg (by simp [c1]), if_neg c2, if_neg (by simp [c3]), (h _ j n hj).1 (by omega)]
  · obtain ⟨c1, c2, c3, j, n, hj, rfl, rfl⟩ := key l st s' m e
    have h1' : depthL st.2 ≤ D := h1
    have h2' : D < depthL (st.2 ++ [j]) := h2
    rw [depthL_snoc] at h2'
    unfold stepO
    rw [if_neg (by simp [c1]), if_neg c2, if_neg (by simp [c3]), (h _ j n hj).2 (by omega)]
    rfl
theorem listJ_stops {D : Nat} {rd rd' : List UInt8 → JR} (h : StopsR D rd rd') (l : List UInt8) (j : J) (n : Nat) (e : listJ rd l = (j, n, 0)) : (depthJ j ≤ D + 1 → listJ rd' l = (j, n, 0)) ∧ (D + 1 < depthJ j → listJ rd' l = jerr 7) := by
  obtain ⟨h1, h2⟩ := listJ_is rd l
  obtain ⟨k1, k2⟩ := listJ_is rd' l
  obtain ⟨st, N, x, hp⟩ : ∃ st N x, piecesP (stepL rd) 93 l [] = (st, N, x) := ⟨_, _, _, rfl⟩
  rw [hp] at h1 h2
  simp only at h1 h2
  by_cases hx : x = 0
  · subst hx
    rw [h1 rfl] at e
    simp only [Prod.mk.injEq, and_true] at e
    obtain ⟨rfl, rfl⟩ := e
    obtain ⟨q1, q2⟩ := piecesP_stops (stepL_stops h) 93 l [] st N (Nat.zero_le _) hp
    rw [depthJ, if_pos (.inl rfl)]
    refine ⟨fun hd => ?_, fun hd => ?_⟩
    · have q := q1 (by omega)
      rw [q] at k1
      exact k1 rfl
    · have q := q2 (by omega)
      rw [k2 (by rw [q]; decide), q]
  · rw [h2 hx] at e
    unfold jerr at e
    simp only [Prod.mk.injEq] at e
    exact absurd e.2.2 hx
theorem objJ_stops {D : Nat} {rd rd' : List UInt8 → JR} (h : StopsR D rd rd') (l : List UInt8) (j : J) (n : Nat) (e : objJ rd l = (j, n, 0)) : (depthJ j ≤ D + 1 → objJ rd' l = (j, n, 0)) ∧ (D + 1 < depthJ j → objJ rd' l = jerr 7) := by
  obtain ⟨h1, h2⟩ := objJ_is rd l
  obtain ⟨k1, k2⟩ := objJ_is rd' l
  obtain ⟨st, N, x, hp⟩ : ∃ st N x, piecesP (stepO rd) 125 l ([], []) = (st, N, x) := ⟨_, _, _, rfl⟩
  rw [hp] at h1 h2
  simp only at h1 h2
  by_cases hx : x = 0
  · subst hx
    rw [h1 rfl] at e
    simp only [Prod.mk.injEq, and_true] at e
    obtain ⟨rfl, rfl⟩ := e
    obtain ⟨q1, q2⟩ := piecesP_stops (stepO_stops h) 125 l ([], []) st N (Nat.zero_le _) hp
    rw [depthJ, if_pos (.inr rfl)]
    refine ⟨fun hd => ?_, fun hd => ?_⟩
    · have q := q1 (show depthL st.2 ≤ D by omega)
      rw [q] at k1
      exact k1 rfl
    · have q := q2 (show D < depthL st.2 by omega)
      rw [k2 (by rw [q]; decide), q]
  · rw [h2 hx] at e
    unfold jerr at e
    simp only [Prod.mk.injEq] at e
    exact absurd e.2.2 hx
theorem textJ_flat {l : List UInt8} {j : J} {n : Nat} (h : textJ l = (j, n, 0)) : depthJ j = 0 := by
  unfold textJ at h
  split at h
  · rename_i hx; unfold jerr at h; simp only [Prod.mk.injEq] at h; exact absurd h.2.2 hx
  · simp only [Prod.mk.injEq] at h; rw [← h.1, depthJ, if_neg (by omega)]
theorem numJ_flat {l : List UInt8} {j : J} {n : Nat} (h : numJ l = (j, n, 0)) : depthJ j = 0 := by
  unfold numJ at h
  split at h
  · rename_i hx; unfold jerr at h; simp only [Prod.mk.injEq] at h; exact absurd h.2.2 hx
  · simp only [Prod.mk.injEq] at h; rw [← h.1, depthJ, if_neg (by omega)]
theorem wordJ_flat {l : List UInt8} {j : J} {n : Nat} (h : wordJ l = (j, n, 0)) : depthJ j = 0 := by
  unfold wordJ at h
  split at h
  · simp only [Prod.mk.injEq] at h; rw [← h.1, depthJ, if_neg (by omega)]
  · split at h
    · simp only [Prod.mk.injEq] at h; rw [← h.1, depthJ, if_neg (by omega)]
    · split at h
      · simp only [Prod.mk.injEq] at h; rw [← h.1, depthJ, if_neg (by omega)]
      · split at h <;> simp [jerr] at h
theorem headJ_stops {D : Nat} {li ob li' ob' : List UInt8 → JR} (hl : ∀ l j n, li l = (j, n, 0) → (depthJ j ≤ D → li' l = (j, n, 0)) ∧ (D < depthJ j → li' l = jerr 7)) (ho : ∀ l j n, ob l = (j, n, 0) → (depthJ j ≤ D → ob' l = (j, n, 0)) ∧ (D < depthJ j → ob' l = jerr 7)) : StopsR D (headJ li ob) (headJ li' ob') := by
  intro l j n e
  match l, e with
  | [], e => simp [headJ, jerr] at e
  | c :: t, e =>
    simp only [headJ] at e ⊢
    by_cases h1 : c.toNat = 34
    · rw [if_pos h1] at e ⊢
      have := textJ_flat e
      exact ⟨fun _ => e, fun h => by omega⟩
    · rw [if_neg h1] at e ⊢
      by_cases h2 : c.toNat = 45 ∨ digB c = true
      · rw [if_pos h2] at e ⊢
        have := numJ_flat e
        exact ⟨fun _ => e, fun h => by omega⟩
      · rw [if_neg h2] at e ⊢
        by_cases h3 : c.toNat = 116 ∨ c.toNat = 102 ∨ c.toNat = 110
        · rw [if_pos h3] at e ⊢
          have := wordJ_flat e
          exact ⟨fun _ => e, fun h => by omega⟩
        · rw [if_neg h3] at e ⊢
          by_cases h4 : c.toNat = 91
          · rw [if_pos h4] at e ⊢; exact hl _ _ _ e
          · rw [if_neg h4] at e ⊢
            by_cases h5 : c.toNat = 123
            · rw [if_pos h5] at e ⊢; exact ho _ _ _ e
            · rw [if_neg h5] at e; simp [jerr] at e
theorem listJ_deep {rd : List UInt8 → JR} {l : List UInt8} {j : J} {n : Nat} (e : listJ rd l = (j, n, 0)) : 0 < depthJ j := by
  obtain ⟨h1, h2⟩ := listJ_is rd l
  by_cases hx : (piecesP (stepL rd) 93 l []).2.2 = 0
  · rw [h1 hx] at e
    simp only [Prod.mk.injEq] at e
    rw [← e.1, depthJ, if_pos (.inl rfl)]; omega
  · rw [h2 hx] at e; unfold jerr at e; simp only [Prod.mk.injEq] at e; exact absurd e.2.2 hx
theorem objJ_deep {rd : List UInt8 → JR} {l : List UInt8} {j : J} {n : Nat} (e : objJ rd l = (j, n, 0)) : 0 < depthJ j := by
  obtain ⟨h1, h2⟩ := objJ_is rd l
  by_cases hx : (piecesP (stepO rd) 125 l ([], [])).2.2 = 0
  · rw [h1 hx] at e
    simp only [Prod.mk.injEq] at e
    rw [← e.1, depthJ, if_pos (.inr rfl)]; omega
  · rw [h2 hx] at e; unfold jerr at e; simp only [Prod.mk.injEq] at e; exact absurd e.2.2 hx
theorem none_ok {j : J} {n : Nat} {x : Nat} (e : jerr (x + 1) = (j, n, 0)) : False := by simp [jerr] at e
theorem valueJ_stops : ∀ d D, StopsR D (valueJ d) (valueJ D) := by
  intro d
  induction d with
  | zero =>
    intro D
    cases D with
    | zero => exact headJ_stops (fun l j n e => (none_ok e).elim) (fun l j n e => (none_ok e).elim)
    | succ D => exact headJ_stops (fun l j n e => (none_ok e).elim) (fun l j n e => (none_ok e).elim)
  | succ d ih =>
    intro D
    cases D with
    | zero =>
      exact headJ_stops (fun l j n e => ⟨fun h => by have := listJ_deep e; omega, fun _ => rfl⟩) (fun l j n e => ⟨fun h => by have := objJ_deep e; omega, fun _ => rfl⟩)
    | succ D =>
      exact headJ_stops (fun l j n e => listJ_stops (ih D) l j n e) (fun l j n e => objJ_stops (ih D) l j n e)

/-- What is read at a depth. -/
structure Deep (d : Nat) (l : List UInt8) (j : J) (n : Nat) : Prop where
  le : depthJ j ≤ d
  sm : SmJ j
  n_le : n ≤ l.length
  more : ∀ D, depthJ j ≤ D → valueJ D l = (j, n, 0)
  less : ∀ D, D < depthJ j → valueJ D l = jerr 7
  all : allC j = 0
  any : ∀ t, (kindJ j = 3 → ND t) → valueJ d (l.take n ++ t) = (j, n, 0)
theorem value_deep {d : Nat} {l : List UInt8} {j : J} {n : Nat} (hl : l.length ≤ 100000) (h : valueJ d l = (j, n, 0)) : Deep d l j n := by
  have k := value_ok d l hl (by rw [h])
  rw [h] at k
  obtain ⟨k1, k2, k3⟩ := k
  obtain ⟨A, R, rfl, rfl, -, hA⟩ := valueJ_ext d l j n h
  refine ⟨k1, k3, by simp, fun D hD => (valueJ_stops d D _ j _ h).1 hD, fun D hD => (valueJ_stops d D _ j _ h).2 hD, k2, fun t ht => ?_⟩
  rw [List.take_left]
  exact hA t ht
theorem deep_check {d : Nat} {l : List UInt8} {j : J} {n : Nat} (h : Deep d l j n) (hd : d ≤ 8) (hn : nodesJ j ≤ 400) : checkC j = 0 := by
  have := h.le
  unfold checkC
  rw [if_neg (by omega), if_neg (by omega), h.all]
theorem value_none {d : Nat} {l : List UInt8} (h : (valueJ d l).2.2 ≠ 0) : valueJ d l = jerr (valueJ d l).2.2 := by
  have key : ∀ (li ob : List UInt8 → JR), (∀ l, (li l).2.2 ≠ 0 → li l = jerr (li l).2.2) → (∀ l, (ob l).2.2 ≠ 0 → ob l = jerr (ob l).2.2) → ∀ l, (headJ li ob l).2.2 ≠ 0 → headJ li ob l = jerr (headJ li ob l).2.2 := by
    intro li ob hl ho l
    match l with
    | [] => intro _; rfl
    | c :: t =>
      simp only [headJ]
      split
      · unfold textJ; split
        · intro _; rfl
        · intro h; exact absurd rfl h
      · split
        · unfold numJ; split
          · intro _; rfl
          · intro h; exact absurd rfl h
        · split
          · unfold wordJ; split
            · intro h; exact absurd rfl h
            · split
              · intro h; exact absurd rfl h
              · split
                · intro h; exact absurd rfl h
                · split <;> (intro _; rfl)
          · split
            · exact hl _
            · split
              · exact ho _
              · intro _; rfl
  have li : ∀ rd l, (listJ rd l).2.2 ≠ 0 → listJ rd l = jerr (listJ rd l).2.2 := fun rd l h => by
    obtain ⟨h1, h2⟩ := listJ_is rd l
    by_cases hx : (piecesP (stepL rd) 93 l []).2.2 = 0
    · rw [h1 hx] at h; exact absurd rfl h
    · rw [h2 hx]; rfl
  have ob : ∀ rd l, (objJ rd l).2.2 ≠ 0 → objJ rd l = jerr (objJ rd l).2.2 := fun rd l h => by
    obtain ⟨h1, h2⟩ := objJ_is rd l
    by_cases hx : (piecesP (stepO rd) 125 l ([], [])).2.2 = 0
    · rw [h1 hx] at h; exact absurd rfl h
    · rw [h2 hx]; rfl
  cases d with
  | zero => exact key _ _ (fun _ _ => rfl) (fun _ _ => rfl) l h
  | succ d => exact key _ _ (li _) (ob _) l h
end Go.Proofs.YtljkeladdplhlaaDoor
