/-
  What follows a value does not matter, but for a digit behind a number: of package json, on plain functions.
-/
import Derived.Test.YtljkeladdplhlaaDoorPcs
namespace Go.Proofs.YtljkeladdplhlaaDoor
open Go.RowKit

/-- No digit comes first. -/
def ND (t : List UInt8) : Prop := ∀ c u, t = c :: u → digB c = false
/-- No blank comes first. -/
def NB (t : List UInt8) : Prop := ∀ c u, t = c :: u → blankB c = false
theorem blank_nd {c : UInt8} (h : blankB c = true) : digB c = false := by
  unfold blankB at h
  unfold digB
  simp at h ⊢
  omega
theorem sp_app (b t : List UInt8) (hb : ∀ c, c ∈ b → blankB c = true) (ht : NB t) : spaceL (b ++ t) = b.length := by
  unfold spaceL
  induction b with
  | nil =>
    match t, ht with
    | [], _ => rfl
    | c :: u, ht => rw [List.nil_append, List.takeWhile_cons, ht c u rfl]; rfl
  | cons x b ih =>
    rw [List.cons_append, List.takeWhile_cons, hb x (by simp)]
    simp only [if_true, List.length_cons]
    rw [ih (fun c hc => hb c (by simp [hc]))]
theorem tw_mem (p : UInt8 → Bool) : ∀ (l : List UInt8) (c : UInt8), c ∈ l.takeWhile p → p c = true
  | [], _, h => by simp at h
  | x :: l, c, h => by
    rw [List.takeWhile_cons] at h
    by_cases hx : p x = true
    · rw [if_pos hx] at h
      rcases List.mem_cons.1 h with e | e
      · rw [e]; exact hx
      · exact tw_mem p l c e
    · rw [if_neg hx] at h
      simp at h
theorem sp_split (l : List UInt8) : ∃ B T, l = B ++ T ∧ spaceL l = B.length ∧ l.drop (spaceL l) = T ∧ (∀ c, c ∈ B → blankB c = true) ∧ NB T := by
  refine ⟨l.takeWhile blankB, l.dropWhile blankB, (List.takeWhile_append_dropWhile).symm, rfl, ?_, fun c hc => ?_, fun c u e => ?_⟩
  · unfold spaceL
    have h : l = l.takeWhile blankB ++ l.dropWhile blankB := (List.takeWhile_append_dropWhile).symm
    conv => lhs; rw [h]
    have hw : (l.takeWhile blankB ++ l.dropWhile blankB).takeWhile blankB = l.takeWhile blankB := by rw [← h]
    rw [← h]
    conv => lhs; arg 2; rw [h]
    exact List.drop_left
  · exact tw_mem _ _ _ hc
  · have := List.head?_dropWhile_not blankB l
    rw [e] at this
    simpa using this
theorem drop_app (A R : List UInt8) : (A ++ R).drop A.length = R := List.drop_left

theorem loopP_ext {σ : Type} (step : List UInt8 → σ → σ × Nat × Nat) (endc : Nat) (h57 : ∀ c : UInt8, c.toNat = endc → digB c = false)
    (hs : ∀ l st s' m, step l st = (s', m, 0) → ∃ A R, l = A ++ R ∧ m = A.length ∧ ∀ t, ND t → step (A ++ t) st = (s', m, 0)) :
    ∀ (k : Nat) (l : List UInt8) (st : σ) (n : Nat) (r : σ) (N : Nat), loopP step endc k l st n = (r, N, 0) → ∃ A R, l = A ++ R ∧ N = n + A.length ∧ 1 ≤ A.length ∧ ∀ t k', A.length < k' → loopP step endc k' (A ++ t) st n = (r, N, 0) := by
  intro k
  induction k with
  | zero => intro l st n r N h; simp [loopP] at h
  | succ k ih =>
    intro l st n r N h
    unfold loopP at h
    obtain ⟨s', m, x, hst⟩ : ∃ s' m x, step l st = (s', m, x) := ⟨_, _, _, rfl⟩
    rw [hst] at h
    simp only at h
    by_cases hx : x ≠ 0
    · rw [if_pos hx] at h
      simp only [Prod.mk.injEq] at h
      exact absurd h.2.2 hx
    · rw [if_neg hx] at h
      have hx0 : x = 0 := Classical.not_not.1 hx
      subst hx0
      obtain ⟨A, R, rfl, rfl, hA⟩ := hs l st s' m hst
      rw [drop_app] at h
      obtain ⟨B, T, rfl, hB1, hB2, hB3, hB4⟩ := sp_split R
      rw [hB2, hB1] at h
      match T, hB4, h with
      | [], _, h => simp at h
      | c :: u, hB4, h =>
        simp only at h
        have hcb := hB4 c u rfl
        have mk : ∀ (E t : List UInt8) (k' : Nat), digB c = false → (∀ (X : σ × Nat × Nat), (if c.toNat = 44 then loopP step endc k' ((E ++ t).drop (spaceL (E ++ t))) s' (n + A.length + B.length + 1 + spaceL (E ++ t)) else if c.toNat = endc then (s', n + A.length + B.length + 1, 0) else (st, 0, 5)) = X → loopP step endc (k' + 1) ((A ++ (B ++ c :: E)) ++ t) st n = X) := by
          intro E t k' hcd X hX
          have e1 : (A ++ (B ++ c :: E)) ++ t = A ++ (B ++ (c :: (E ++ t))) := by simp
          rw [e1]
          unfold loopP
          have hnd : ND (B ++ c :: (E ++ t)) := by
            intro a u' e
            match B, hB3, e with
            | [], _, e => simp only [List.nil_append, List.cons.injEq] at e; rw [← e.1]; exact hcd
            | b :: B', hB3, e => simp only [List.cons_append, List.cons.injEq] at e; rw [← e.1]; exact blank_nd (hB3 b (by simp))
          rw [hA _ hnd]
          simp only
          rw [if_neg (by simp), drop_app, sp_app B (c :: (E ++ t)) hB3 (fun a u' e => by simp only [List.cons.injEq] at e; rw [← e.1]; exact hcb), drop_app]
          simp only
          exact hX
        by_cases h44 : c.toNat = 44
        · rw [if_pos h44] at h
          have hcd : digB c = false := by unfold digB; simp; omega
          obtain ⟨C, T2, rfl, hC1, hC2, hC3, hC4⟩ := sp_split u
          rw [hC2, hC1] at h
          obtain ⟨A2, R2, rfl, hN, hA2, ht2⟩ := ih _ _ _ _ _ h
          have hNB : ∀ t, NB (A2 ++ t) := fun t a u' e => by
            match A2, hA2, hC4, e with
            | [], hA2, _, _ => simp at hA2
            | a' :: A2', _, hC4, e => simp only [List.cons_append, List.cons.injEq] at e; rw [← e.1]; exact hC4 a' (A2' ++ R2) rfl
          refine ⟨A ++ (B ++ c :: (C ++ A2)), R2, by simp, ?_, by simp; omega, fun t k' hk' => ?_⟩
          · simp only [List.length_append, List.length_cons]; omega
          · simp only [List.length_append, List.length_cons] at hk'
            obtain ⟨k'', rfl⟩ : ∃ k'', k' = k'' + 1 := ⟨k' - 1, by omega⟩
            refine mk (C ++ A2) t k'' hcd _ ?_
            rw [if_pos h44, List.append_assoc, sp_app C (A2 ++ t) hC3 (hNB t), drop_app]
            exact ht2 t k'' (by omega)
        · rw [if_neg h44] at h
          by_cases hec : c.toNat = endc
          · rw [if_pos hec] at h
            simp only [Prod.mk.injEq, and_true] at h
            obtain ⟨rfl, rfl⟩ := h
            refine ⟨A ++ (B ++ [c]), u, by simp, by simp; omega, by simp; omega, fun t k' hk' => ?_⟩
            obtain ⟨k'', rfl⟩ : ∃ k'', k' = k'' + 1 := ⟨k' - 1, by omega⟩
            refine mk [] t k'' (h57 c hec) _ ?_
            rw [if_neg h44, if_pos hec]
          · rw [if_neg hec] at h
            simp at h
end Go.Proofs.YtljkeladdplhlaaDoor
