/-
  What follows a value does not matter: the kinds of values, of package json.
-/
import Derived.Test.YtljkeladdplhlaaDoorExt
namespace Go.Proofs.YtljkeladdplhlaaDoor
open Go.RowKit

theorem piecesP_ext {σ : Type} (step : List UInt8 → σ → σ × Nat × Nat) (endc : Nat) (h0 : endc ≠ 0) (h57 : ∀ c : UInt8, c.toNat = endc → digB c = false ∧ blankB c = false)
    (hs : ∀ l st s' m, step l st = (s', m, 0) → ∃ A R, l = A ++ R ∧ m = A.length ∧ ∀ t, ND t → step (A ++ t) st = (s', m, 0)) (l : List UInt8) (st r : σ) (N : Nat) (h : piecesP step endc l st = (r, N, 0)) :
    ∃ A R, l = A ++ R ∧ N = A.length ∧ 2 ≤ A.length ∧ ∀ t, piecesP step endc (A ++ t) st = (r, N, 0) := by
  unfold piecesP at h
  obtain ⟨B, T, hl, hB1, hB2, hB3, hB4⟩ := sp_split (l.drop 1)
  rw [hB2] at h
  by_cases hc : (T.getD 0 0).toNat = endc
  · rw [if_pos hc, hB1] at h
    simp only [Prod.mk.injEq, and_true] at h
    obtain ⟨rfl, rfl⟩ := h
    match l, T, hl, hc with
    | [], [], _, hc => exact absurd hc.symm h0
    | [], c :: u, hl, _ => simp at hl
    | a :: l', [], hl, hc => exact absurd hc.symm h0
    | a :: l', c :: u, hl, hc =>
      have hc' : c.toNat = endc := hc
      simp only [List.drop_succ_cons, List.drop_zero] at hl
      subst hl
      refine ⟨a :: (B ++ [c]), u, by simp, by simp; omega, by simp, fun t => ?_⟩
      unfold piecesP
      have e : (a :: (B ++ [c]) ++ t).drop 1 = B ++ (c :: t) := by simp
      rw [e, sp_app B (c :: t) hB3 (fun x y e => by simp only [List.cons.injEq] at e; rw [← e.1]; exact (h57 c hc').2), drop_app]
      rw [if_pos (by simpa using hc')]
  · rw [if_neg hc] at h
    obtain ⟨A, R, hT, hN, hA1, hA⟩ := loopP_ext step endc (fun c hc => (h57 c hc).1) hs _ _ _ _ _ _ h
    rw [hB1] at hN
    have hA' := hA
    match l, hl with
    | [], hl =>
      simp at hl
      obtain ⟨_, rfl⟩ := hl
      have := congrArg List.length hT
      simp at this
      omega
    | a :: l', hl =>
      simp only [List.drop_succ_cons, List.drop_zero] at hl
      subst hl
      subst hT
      have hNB : ∀ t, NB (A ++ t) := fun t x y e => by
        match A, hA1, hB4, e with
        | [], h, _, _ => simp at h
        | b :: A', _, hB4, e => simp only [List.cons_append, List.cons.injEq] at e; rw [← e.1]; exact hB4 b (A' ++ R) rfl
      refine ⟨a :: (B ++ A), R, by simp, by simp; omega, by simp; omega, fun t => ?_⟩
      unfold piecesP
      have e : (a :: (B ++ A) ++ t).drop 1 = B ++ (A ++ t) := by simp
      rw [e, sp_app B (A ++ t) hB3 (hNB t), drop_app]
      have hhd : ((A ++ t).getD 0 0) = ((A ++ R).getD 0 0) := by
        match A, hA1 with
        | [], h => simp at h
        | b :: A', _ => rfl
      rw [if_neg (by rw [hhd]; exact hc)]
      have := hA t ((a :: (B ++ A) ++ t).length + 1) (by simp; omega)
      rwa [hB1] at this

def kindJ : J → Int
  | .mk k _ _ _ _ => k
/-- A reader whose answer does not depend on what follows. -/
def ExtR (rd : List UInt8 → JR) : Prop := ∀ l j m, rd l = (j, m, 0) → ∃ A R, l = A ++ R ∧ m = A.length ∧ (∃ c A', A = c :: A' ∧ blankB c = false) ∧ ∀ t, (kindJ j = 3 → ND t) → rd (A ++ t) = (j, m, 0)

theorem stepL_ext {rd : List UInt8 → JR} (h : ExtR rd) (l : List UInt8) (st s' : List J) (m : Nat) (e : stepL rd l st = (s', m, 0)) : ∃ A R, l = A ++ R ∧ m = A.length ∧ ∀ t, ND t → stepL rd (A ++ t) st = (s', m, 0) := by
  obtain ⟨j, m', x, hr⟩ : ∃ j m' x, rd l = (j, m', x) := ⟨_, _, _, rfl⟩
  unfold stepL at e
  rw [hr] at e
  simp only [Prod.mk.injEq] at e
  obtain ⟨rfl, rfl, rfl⟩ := e
  obtain ⟨A, R, rfl, rfl, _, hA⟩ := h l j m' hr
  refine ⟨A, R, rfl, rfl, fun t ht => ?_⟩
  unfold stepL
  rw [hA t (fun _ => ht)]
theorem unq_ext (l : List UInt8) (key : List UInt8) (q : Nat) (h : unqL l = (key, q, 0)) : ∃ A R, l = A ++ R ∧ q = A.length ∧ (∃ A', A = 34 :: A') ∧ ∀ t, unqL (A ++ t) = (key, q, 0) := by
  have wl := wellL l (by rw [h])
  have hp := wl.pos
  have hle := wl.le
  rw [h] at hp hle
  simp only at hp hle
  refine ⟨l.take q, l.drop q, (List.take_append_drop q l).symm, by rw [List.length_take]; omega, ?_, fun t => ?_⟩
  · match l, h, hle with
    | [], h, _ => simp [unqL] at h
    | c :: u, h, hle =>
      have hc : c.toNat = 34 := by
        unfold unqL at h
        rw [if_neg (by simp)] at h
        by_cases hc : c.toNat = 34
        · exact hc
        · rw [if_pos (by simpa using hc)] at h
          simp at h
      obtain ⟨q', rfl⟩ : ∃ q', q = q' + 1 := ⟨q - 1, by omega⟩
      exact ⟨u.take q', by rw [List.take_succ_cons, show c = 34 from UInt8.toNat_inj.1 hc]⟩
  · have := wl.same t
    rw [h] at this
    exact this
theorem colon_ext (l : List UInt8) (m : Nat) (h : colonL l = (m, 0)) : ∃ A R, l = A ++ R ∧ m = A.length ∧ (∀ t, NB t → colonL (A ++ t) = (m, 0)) ∧ NB R := by
  unfold colonL at h
  obtain ⟨B, T, rfl, hB1, hB2, hB3, hB4⟩ := sp_split l
  rw [hB2] at h
  match T, hB4, h with
  | [], _, h => simp at h
  | c :: u, hB4, h =>
    simp only at h
    by_cases hc : c.toNat = 58
    · rw [if_pos hc, hB1] at h
      simp only [Prod.mk.injEq, and_true] at h
      obtain ⟨C, V, rfl, hC1, hC2, hC3, hC4⟩ := sp_split u
      rw [hC1] at h
      subst h
      refine ⟨B ++ c :: C, V, by simp, by simp; omega, fun t ht => ?_, hC4⟩
      unfold colonL
      have e : (B ++ c :: C) ++ t = B ++ (c :: (C ++ t)) := by simp
      rw [e, sp_app B _ hB3 (fun x y e => by simp only [List.cons.injEq] at e; rw [← e.1]; exact hB4 c (C ++ V) rfl), drop_app]
      simp only
      rw [if_pos hc, sp_app C t hC3 ht]
    · rw [if_neg hc] at h
      simp at h
theorem stepO_ext {rd : List UInt8 → JR} (h : ExtR rd) (l : List UInt8) (st s' : List (List UInt8) × List J) (m : Nat) (e : stepO rd l st = (s', m, 0)) : ∃ A R, l = A ++ R ∧ m = A.length ∧ ∀ t, ND t → stepO rd (A ++ t) st = (s', m, 0) := by
  unfold stepO at e
  obtain ⟨key, q, x, hu⟩ : ∃ key q x, unqL l = (key, q, x) := ⟨_, _, _, rfl⟩
  rw [hu] at e
  simp only at e
  by_cases hx : x ≠ 0
  · rw [if_pos hx] at e; simp only [Prod.mk.injEq] at e; exact absurd e.2.2 hx
  · rw [if_neg hx] at e
    have hx0 := Classical.not_not.1 hx
    subst hx0
    by_cases hk : key ∈ st.1
    · rw [if_pos hk] at e; simp at e
    · rw [if_neg hk] at e
      obtain ⟨A, R, rfl, rfl, _, hA⟩ := unq_ext l key q hu
      rw [drop_app] at e
      obtain ⟨p, y, hc⟩ : ∃ p y, colonL R = (p, y) := ⟨_, _, rfl⟩
      rw [hc] at e
      simp only at e
      by_cases hy : y ≠ 0
      · rw [if_pos hy] at e; simp only [Prod.mk.injEq] at e; exact absurd e.2.2 hy
      · rw [if_neg hy] at e
        have hy0 := Classical.not_not.1 hy
        subst hy0
        obtain ⟨B, T, rfl, rfl, hB, hNB⟩ := colon_ext R p hc
        have hd : (A ++ (B ++ T)).drop (A.length + B.length) = T := by rw [← List.append_assoc, ← List.length_append]; exact drop_app _ _
        rw [hd] at e
        obtain ⟨j, m', z, hr⟩ : ∃ j m' z, rd T = (j, m', z) := ⟨_, _, _, rfl⟩
        rw [hr] at e
        simp only [Prod.mk.injEq] at e
        obtain ⟨rfl, rfl, rfl⟩ := e
        obtain ⟨C, V, rfl, rfl, ⟨c, C', rfl, hcb⟩, hC⟩ := h T j m' hr
        refine ⟨A ++ (B ++ c :: C'), V, by simp, by simp only [List.length_append]; omega, fun t ht => ?_⟩
        have e1 : A ++ (B ++ c :: C') ++ t = A ++ (B ++ (c :: C' ++ t)) := by simp
        rw [e1]
        unfold stepO
        rw [hA]
        simp only
        rw [if_neg (by simp), if_neg hk, drop_app, hB _ (fun x y e => by simp only [List.cons_append, List.cons.injEq] at e; rw [← e.1]; exact hcb)]
        simp only
        have hd2 : (A ++ (B ++ (c :: C' ++ t))).drop (A.length + B.length) = c :: C' ++ t := by rw [← List.append_assoc, ← List.length_append]; exact drop_app _ _
        rw [if_neg (by simp), hd2, hC t (fun _ => ht)]
end Go.Proofs.YtljkeladdplhlaaDoor
