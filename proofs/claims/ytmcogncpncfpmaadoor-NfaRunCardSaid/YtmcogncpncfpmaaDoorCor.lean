/-
  Plain facts: the states behind a text are those that the glob's fronts reach; so the run matches what the glob matches.
-/
import Derived.Test.YtmcogncpncfpmaaDoorRun
import Derived.Test.YtmcogncpncfpmaaDoorMch
namespace Go.Proofs.YtmcogncpncfpmaaDoor
open Go.RowKit

theorem byte_eq' {c : UInt8} {n : Nat} (h : c.toNat = n) : c = UInt8.ofNat n := by
  rw [← h]; simp
/-- The last letter of a front, and the last byte of a text. -/
theorem mt_snoc_star (eq : UInt8 → UInt8 → Bool) (P T : List UInt8) (p c : UInt8) (h : p.toNat = 42) : mt eq (P ++ [p]) (T ++ [c]) = (mt eq P (T ++ [c]) || mt eq (P ++ [p]) T) := by
  rw [Bool.eq_iff_iff, Bool.or_eq_true, mt_app, mt_app]
  constructor
  · rintro ⟨k, hk, h1, _⟩
    rw [List.length_append, List.length_singleton] at hk
    by_cases e : k = T.length + 1
    · left
      rw [List.take_of_length_le (by simp; omega)] at h1
      exact h1
    · right
      refine ⟨k, by omega, ?_, mt_any eq p h _⟩
      rw [List.take_append_of_le_length (by omega)] at h1
      exact h1
  · rintro (h1 | ⟨k, hk, h1, _⟩)
    · exact ⟨(T ++ [c]).length, Nat.le_refl _, by rw [List.take_length]; exact h1, mt_any eq p h _⟩
    · refine ⟨k, by simp; omega, ?_, mt_any eq p h _⟩
      rw [List.take_append_of_le_length hk]
      exact h1
theorem mt_snoc_nil (eq : UInt8 → UInt8 → Bool) (P : List UInt8) (p : UInt8) (h : p.toNat = 42) : mt eq (P ++ [p]) [] = mt eq P [] := by
  rw [Bool.eq_iff_iff, mt_app]
  constructor
  · rintro ⟨k, hk, h1, _⟩; simpa using h1
  · intro h1; exact ⟨0, Nat.le_refl _, by simpa using h1, mt_any eq p h _⟩
theorem mt_single (eq : UInt8 → UInt8 → Bool) (p : UInt8) (D : List UInt8) (h : p.toNat ≠ 42) : mt eq [p] D = true ↔ ∃ d, D = [d] ∧ one eq p d = true := by
  cases D with
  | nil => rw [mt_plain_nil _ _ _ h]; simp
  | cons d D =>
    cases ho : one eq p d
    · rw [mt_none _ _ _ _ _ h ho]
      constructor
      · intro e; cases e
      · rintro ⟨x, e, hx⟩
        have e1 : d = x := by have := congrArg List.head? e; simpa using this
        rw [← e1, ho] at hx; cases hx
    · rw [mt_one _ _ _ _ _ ho, mt_nil]
      constructor
      · intro e
        have : D = [] := by simpa using e
        exact ⟨d, by rw [this], ho⟩
      · rintro ⟨x, e, hx⟩
        have : D = [] := by have := congrArg List.tail e; simpa using this
        rw [this]; rfl
theorem mt_snoc_plain_nil (eq : UInt8 → UInt8 → Bool) (P : List UInt8) (p : UInt8) (h : p.toNat ≠ 42) : mt eq (P ++ [p]) [] = false := by
  rw [Bool.eq_false_iff, Ne, mt_app]
  rintro ⟨k, hk, _, h2⟩
  rw [mt_single _ _ _ h] at h2
  obtain ⟨d, e, _⟩ := h2
  simp at e
theorem mt_snoc_plain (eq : UInt8 → UInt8 → Bool) (P T : List UInt8) (p c : UInt8) (h : p.toNat ≠ 42) : mt eq (P ++ [p]) (T ++ [c]) = (one eq p c && mt eq P T) := by
  rw [Bool.eq_iff_iff, Bool.and_eq_true, mt_app]
  constructor
  · rintro ⟨k, hk, h1, h2⟩
    rw [mt_single _ _ _ h] at h2
    obtain ⟨d, e, ho⟩ := h2
    have hl := congrArg List.length e
    simp only [List.length_drop, List.length_append, List.length_singleton] at hl hk
    obtain rfl : k = T.length := by omega
    rw [List.drop_left'] at e <;> try rfl
    rw [List.take_left'] at h1 <;> try rfl
    simp at e
    subst e
    exact ⟨ho, h1⟩
  · rintro ⟨ho, h1⟩
    refine ⟨T.length, by simp, ?_, ?_⟩
    · rw [List.take_left' rfl]; exact h1
    · rw [List.drop_left' rfl, mt_single _ _ _ h]; exact ⟨c, rfl, ho⟩

/-- What the front of j letters matches; where a star stands there, with the star. -/
def Mt (eq : UInt8 → UInt8 → Bool) (N : List UInt8) (j : Nat) (T : List UInt8) : Bool := mt eq (N.take j) T
def At (eq : UInt8 → UInt8 → Bool) (N : List UInt8) (T : List UInt8) (j : Nat) : Bool := if starB N j = true then Mt eq N (j + 1) T else Mt eq N j T
theorem star_of {N : List UInt8} {j : Nat} (h : (N.getD j 0).toNat = 42) : starB N j = true := by unfold starB; rw [h]; rfl
theorem star_not {N : List UInt8} {j : Nat} (h : ¬ (N.getD j 0).toNat = 42) : starB N j = false := by unfold starB; exact beq_eq_false_iff_ne.2 h
theorem of_star {N : List UInt8} {j : Nat} (h : starB N j = true) : (N.getD j 0).toNat = 42 := by unfold starB at h; exact beq_iff_eq.1 h
theorem of_not {N : List UInt8} {j : Nat} (h : starB N j = false) : (N.getD j 0).toNat ≠ 42 := by unfold starB at h; exact beq_eq_false_iff_ne.1 h
theorem star_lt {N : List UInt8} {j : Nat} (h : starB N j = true) : j < N.length := by
  by_cases hj : j < N.length
  · exact hj
  · unfold starB at h
    rw [List.getD_eq_getElem?_getD, List.getElem?_eq_none (by omega)] at h
    simp at h
theorem take_snoc' (N : List UInt8) (j : Nat) (h : j < N.length) : N.take (j + 1) = N.take j ++ [N.getD j 0] := by
  rw [List.take_succ_eq_append_getElem h]; simp [h]
theorem Mt_zero (eq : UInt8 → UInt8 → Bool) (N T : List UInt8) : Mt eq N 0 T = T.isEmpty := by unfold Mt; rw [List.take_zero, mt_nil]
theorem Mt_star (eq : UInt8 → UInt8 → Bool) (N T : List UInt8) (j : Nat) (c : UInt8) (h : starB N j = true) : Mt eq N (j + 1) (T ++ [c]) = (Mt eq N j (T ++ [c]) || Mt eq N (j + 1) T) := by
  unfold Mt; rw [take_snoc' N j (star_lt h)]
  exact mt_snoc_star eq _ _ _ _ (by first | exact of_star h | exact of_not h)
theorem Mt_star_nil (eq : UInt8 → UInt8 → Bool) (N : List UInt8) (j : Nat) (h : starB N j = true) : Mt eq N (j + 1) [] = Mt eq N j [] := by
  unfold Mt; rw [take_snoc' N j (star_lt h)]
  exact mt_snoc_nil eq _ _ (by first | exact of_star h | exact of_not h)
theorem Mt_plain (eq : UInt8 → UInt8 → Bool) (N T : List UInt8) (j : Nat) (c : UInt8) (hj : j < N.length) (h : starB N j = false) : Mt eq N (j + 1) (T ++ [c]) = (one eq (N.getD j 0) c && Mt eq N j T) := by
  unfold Mt; rw [take_snoc' N j hj]
  exact mt_snoc_plain eq _ _ _ _ (by first | exact of_star h | exact of_not h)
theorem Mt_plain_nil (eq : UInt8 → UInt8 → Bool) (N : List UInt8) (j : Nat) (hj : j < N.length) (h : starB N j = false) : Mt eq N (j + 1) [] = false := by
  unfold Mt; rw [take_snoc' N j hj]
  exact mt_snoc_plain_nil eq _ _ (by first | exact of_star h | exact of_not h)

theorem start_mt (eq : UInt8 → UInt8 → Bool) (N : List UInt8) : ∀ j, j ≤ N.length → cloF N (fun j => j == 0) j = Mt eq N j [] := by
  intro j
  induction j with
  | zero => intro _; rw [cloF, Mt_zero]; rfl
  | succ j ih =>
    intro hj
    rw [cloF, ih (by omega)]
    cases h : starB N j
    · rw [Mt_plain_nil eq N j (by omega) h]; simp
    · rw [Mt_star_nil eq N j h]; simp
theorem start_at (eq : UInt8 → UInt8 → Bool) (N : List UInt8) (j : Nat) (hj : j ≤ N.length) : cloF N (fun j => j == 0) j = At eq N [] j := by
  rw [start_mt eq N j hj]
  unfold At
  split
  · rename_i h; rw [Mt_star_nil eq N j h]
  · rfl

/-- Where the letters before the closure lead. -/
theorem pre_zero (M : List UInt8) (c : UInt8) (f : Nat → Bool) (n : Nat) (hn : M.length < n) : stepL M c (lstN f n) 0 = (starB M 0 && f 0) := by
  rw [Bool.eq_iff_iff]
  unfold stepL
  rw [List.any_eq_true, Bool.and_eq_true]
  constructor
  · rintro ⟨x, hx, hh⟩
    rw [lstN_mem] at hx
    unfold hits at hh
    split at hh
    · split at hh
      · rename_i h1 h2
        obtain rfl : x = 0 := (beq_iff_eq.1 hh).symm
        exact ⟨by first | exact star_of h2 | (rw [star_not h2]; rfl), hx.2⟩
      · split at hh
        · simp at hh
        · cases hh
    · cases hh
  · rintro ⟨h1, h2⟩
    have hl := star_lt h1
    exact ⟨0, (lstN_mem _ _ _).2 ⟨by omega, h2⟩, by unfold hits; rw [if_pos hl, if_pos (of_star h1)]; rfl⟩
theorem pre_succ (M : List UInt8) (c : UInt8) (f : Nat → Bool) (n j : Nat) (hn : M.length < n) : stepL M c (lstN f n) (j + 1) = ((starB M (j + 1) && f (j + 1)) || (decide (j < M.length) && !starB M j && decide ((M.getD j 0).toNat = 63 ∨ M.getD j 0 = c) && f j)) := by
  rw [Bool.eq_iff_iff]
  unfold stepL
  rw [List.any_eq_true, Bool.or_eq_true, Bool.and_eq_true, Bool.and_eq_true, Bool.and_eq_true, Bool.and_eq_true, decide_eq_true_eq, decide_eq_true_eq]
  constructor
  · rintro ⟨x, hx, hh⟩
    rw [lstN_mem] at hx
    unfold hits at hh
    split at hh
    · rename_i hlt
      split at hh
      · rename_i h2
        left
        obtain rfl : x = j + 1 := (beq_iff_eq.1 hh).symm
        exact ⟨by first | exact star_of h2 | (rw [star_not h2]; rfl), hx.2⟩
      · rename_i h2
        split at hh
        · rename_i h3
          right
          obtain rfl : x = j := by have h9 := beq_iff_eq.1 hh; omega
          exact ⟨⟨⟨hlt, by first | exact star_of h2 | (rw [star_not h2]; rfl)⟩, h3⟩, hx.2⟩
        · cases hh
    · cases hh
  · rintro (⟨h1, h2⟩ | ⟨⟨⟨h1, h2⟩, h3⟩, h4⟩)
    · have hl := star_lt h1
      exact ⟨j + 1, (lstN_mem _ _ _).2 ⟨by omega, h2⟩, by unfold hits; rw [if_pos hl, if_pos (of_star h1)]; simp⟩
    · refine ⟨j, (lstN_mem _ _ _).2 ⟨by omega, h4⟩, ?_⟩
      unfold hits
      rw [if_pos h1, if_neg (of_not (by simpa using h2)), if_pos h3]
      simp

/-- Folding keeps the wildcards, and parts bytes as the comparison does. -/
theorem low_wild (c : UInt8) (n : Nat) (h : n = 42 ∨ n = 63) : (lowC c).toNat = n ↔ c.toNat = n := by
  unfold lowC
  split
  · rename_i g
    rw [UInt8.toNat_add]
    simp only [show (32 : UInt8).toNat = 32 from rfl]
    omega
  · exact Iff.rfl
theorem fold_len (fo : Bool) (N : List UInt8) : (foldL fo N).length = N.length := foldL_len fo N
theorem fold_at (fo : Bool) (N : List UInt8) (j : Nat) (h : j < N.length) : (foldL fo N).getD j 0 = if fo = true then lowC (N.getD j 0) else N.getD j 0 := by
  cases fo
  · rfl
  · simp [foldL, lowL, h, List.getD]
theorem fold_star (fo : Bool) (N : List UInt8) (j : Nat) : starB (foldL fo N) j = starB N j := by
  by_cases h : j < N.length
  · unfold starB
    rw [fold_at fo N j h, Bool.eq_iff_iff, beq_iff_eq, beq_iff_eq]
    cases fo
    · exact Iff.rfl
    · exact low_wild _ 42 (.inl rfl)
  · have h1 : starB N j = false := by rw [Bool.eq_false_iff]; intro e; exact h (star_lt e)
    have h2 : starB (foldL fo N) j = false := by rw [Bool.eq_false_iff]; intro e; exact h (by have := star_lt e; rwa [fold_len] at this)
    rw [h1, h2]
theorem fold_one (fo : Bool) (N : List UInt8) (c : UInt8) (j : Nat) (h : j < N.length) (hs : starB N j = false) : decide (((foldL fo N).getD j 0).toNat = 63 ∨ (foldL fo N).getD j 0 = (foldL fo [c]).getD 0 0) = one (eqB fo) (N.getD j 0) c := by
  have hs' : (N.getD j 0).toNat ≠ 42 := of_not hs
  rw [fold_at fo N j h, fold_at fo [c] 0 (by simp)]
  generalize N.getD j 0 = x at hs'
  unfold one
  rw [decide_eq_decide]
  cases fo
  · simp [eqB, hs']
  · simp only [if_true, eqB, beq_iff_eq]
    rw [low_wild _ 63 (.inr rfl)]
    simp [hs']

theorem step_at (fo : Bool) (N T : List UInt8) (c : UInt8) (f : Nat → Bool) (hf : ∀ j, j ≤ N.length → f j = At (eqB fo) N T j) : ∀ j, j ≤ N.length → stepS N fo f c j = At (eqB fo) N (T ++ [c]) j := by
  intro j
  unfold stepS
  induction j with
  | zero =>
    intro _
    rw [cloF, pre_zero _ _ _ _ (by rw [fold_len]; omega), fold_star, hf 0 (by omega)]
    unfold At
    cases h : starB N 0
    · simp [Mt_zero]
    · simp [Mt_star _ _ _ _ _ h, Mt_zero]
  | succ j ih =>
    intro hj
    have ih := ih (by omega)
    rw [cloF, ih, pre_succ _ _ _ _ _ (by rw [fold_len]; omega), fold_star, fold_star, fold_len]
    have hlt : j < N.length := by omega
    rw [hf (j + 1) hj, hf j (by omega)]
    cases h : starB N j
    · have e1 := fold_one fo N c j hlt h
      have e2 := Mt_plain (eqB fo) N T j c hlt h
      rw [e1]
      unfold At
      rw [h]
      cases h2 : starB N (j + 1)
      · simp [hlt, e2]
      · have e3 := Mt_star (eqB fo) N T (j + 1) c h2
        simp [hlt, e2, e3, Bool.or_comm]
    · unfold At
      rw [h]
      cases h2 : starB N (j + 1)
      · simp
      · have e3 := Mt_star (eqB fo) N T (j + 1) c h2
        simp [e3, Bool.or_comm]
theorem run_at (fo : Bool) (N l : List UInt8) : ∀ k, k ≤ l.length → ∀ j, j ≤ N.length → runTo N fo l k j = At (eqB fo) N (l.take k) j := by
  intro k
  induction k with
  | zero => intro _ j hj; rw [runTo_zero, List.take_zero]; exact start_at _ N j hj
  | succ k ih =>
    intro hk j hj
    rw [runTo_succ N fo l k (by omega), take_snoc' l k (by omega)]
    exact step_at fo N (l.take k) (l.getD k 0) _ (fun j hj => ih (by omega) j hj) j hj
/-- The end is reached exactly if the glob matches. -/
theorem run_mt (fo : Bool) (N l : List UInt8) (k : Nat) (hk : k ≤ l.length) : runTo N fo l k N.length = mt (eqB fo) N (l.take k) := by
  rw [run_at fo N l k hk N.length (Nat.le_refl _)]
  have h : starB N N.length = false := by rw [Bool.eq_false_iff]; intro e; exact absurd (star_lt e) (by omega)
  unfold At
  rw [h]
  simp [Mt]
end Go.Proofs.YtmcogncpncfpmaaDoor
