/-
  Plain facts on globs: what a glob matches, and that the walk with one star kept finds it.
-/
import Derived.Test.YtolfpkjohlbfdaaDoorBase
namespace Go.Proofs.YtolfpkjohlbfdaaDoor

/-- What a glob matches; eq: when are two bytes the same. -/
def mt (eq : UInt8 → UInt8 → Bool) : List UInt8 → List UInt8 → Bool
  | [], [] => true
  | [], _ :: _ => false
  | p :: ps, [] => if p.toNat = 42 then mt eq ps [] else false
  | p :: ps, c :: ts => if p.toNat = 42 then mt eq ps (c :: ts) || mt eq (p :: ps) ts else if p.toNat = 63 ∨ eq p c = true then mt eq ps ts else false
  termination_by ps ts => ps.length + ts.length

/-- Does one letter of a glob, no star, match a byte? -/
def one (eq : UInt8 → UInt8 → Bool) (p c : UInt8) : Bool := decide (p.toNat ≠ 42 ∧ (p.toNat = 63 ∨ eq p c = true))

theorem mt_nil (eq : UInt8 → UInt8 → Bool) (t : List UInt8) : mt eq [] t = t.isEmpty := by cases t <;> simp [mt]
theorem mt_star_nil (eq : UInt8 → UInt8 → Bool) (p : UInt8) (ps : List UInt8) (h : p.toNat = 42) : mt eq (p :: ps) [] = mt eq ps [] := by simp [mt, h]
theorem mt_star_cons (eq : UInt8 → UInt8 → Bool) (p c : UInt8) (ps ts : List UInt8) (h : p.toNat = 42) : mt eq (p :: ps) (c :: ts) = (mt eq ps (c :: ts) || mt eq (p :: ps) ts) := by
  conv => lhs; unfold mt
  rw [if_pos h]
theorem mt_one (eq : UInt8 → UInt8 → Bool) (p c : UInt8) (ps ts : List UInt8) (h : one eq p c = true) : mt eq (p :: ps) (c :: ts) = mt eq ps ts := by
  unfold one at h
  obtain ⟨h1, h2⟩ := of_decide_eq_true h
  conv => lhs; unfold mt
  rw [if_neg h1, if_pos h2]
theorem mt_none (eq : UInt8 → UInt8 → Bool) (p c : UInt8) (ps ts : List UInt8) (h1 : p.toNat ≠ 42) (h : one eq p c = false) : mt eq (p :: ps) (c :: ts) = false := by
  unfold one at h
  have h2 := of_decide_eq_false h
  conv => lhs; unfold mt
  rw [if_neg h1, if_neg (fun h3 => h2 ⟨h1, h3⟩)]
theorem mt_plain_nil (eq : UInt8 → UInt8 → Bool) (p : UInt8) (ps : List UInt8) (h : p.toNat ≠ 42) : mt eq (p :: ps) [] = false := by simp [mt, h]

/-- A star matches some front. -/
theorem mt_star (eq : UInt8 → UInt8 → Bool) (p : UInt8) (ps : List UInt8) (h : p.toNat = 42) : ∀ ts : List UInt8, mt eq (p :: ps) ts = true ↔ ∃ k, k ≤ ts.length ∧ mt eq ps (ts.drop k) = true
  | [] => by
    rw [mt_star_nil eq p ps h]
    constructor
    · intro q; exact ⟨0, Nat.le_refl _, q⟩
    · rintro ⟨k, hk, q⟩
      simpa using q
  | c :: ts => by
    rw [mt_star_cons eq p c ps ts h, Bool.or_eq_true, mt_star eq p ps h ts]
    constructor
    · rintro (q | ⟨k, hk, q⟩)
      · exact ⟨0, Nat.zero_le _, q⟩
      · exact ⟨k + 1, by simpa using hk, by simpa using q⟩
    · rintro ⟨k, hk, q⟩
      cases k with
      | zero => exact .inl q
      | succ k => exact .inr ⟨k, by simpa using hk, by simpa using q⟩
theorem mt_more (eq : UInt8 → UInt8 → Bool) (p : UInt8) (ps x ts : List UInt8) (h : p.toNat = 42) (q : mt eq (p :: ps) ts = true) : mt eq (p :: ps) (x ++ ts) = true := by
  rw [mt_star eq p ps h] at q ⊢
  obtain ⟨k, hk, r⟩ := q
  exact ⟨x.length + k, by rw [List.length_append]; omega, by rw [List.drop_append, List.drop_of_length_le (by omega), List.nil_append, show x.length + k - x.length = k by omega]; exact r⟩

/-- A segment without a star, and what it matches, letter by letter. -/
def seg (eq : UInt8 → UInt8 → Bool) : List UInt8 → List UInt8 → Bool
  | [], [] => true
  | p :: ps, c :: cs => one eq p c && seg eq ps cs
  | _, _ => false
theorem seg_snoc (eq : UInt8 → UInt8 → Bool) (ps cs : List UInt8) (p c : UInt8) (h : seg eq ps cs = true) (h1 : one eq p c = true) : seg eq (ps ++ [p]) (cs ++ [c]) = true := by
  induction ps generalizing cs with
  | nil => cases cs with
    | nil => simp [seg, h1]
    | cons d cs => simp [seg] at h
  | cons a ps ih => cases cs with
    | nil => simp [seg] at h
    | cons d cs =>
      simp only [seg, Bool.and_eq_true] at h
      simp only [List.cons_append, seg, Bool.and_eq_true]
      exact ⟨h.1, ih cs h.2⟩
theorem seg_len (eq : UInt8 → UInt8 → Bool) (ps cs : List UInt8) (h : seg eq ps cs = true) : ps.length = cs.length := by
  induction ps generalizing cs with
  | nil => cases cs with
    | nil => rfl
    | cons d cs => simp [seg] at h
  | cons a ps ih => cases cs with
    | nil => simp [seg] at h
    | cons d cs =>
      simp only [seg, Bool.and_eq_true] at h
      simp [ih cs h.2]
theorem mt_seg (eq : UInt8 → UInt8 → Bool) (ps cs P T : List UInt8) (h : seg eq ps cs = true) : mt eq (ps ++ P) (cs ++ T) = mt eq P T := by
  induction ps generalizing cs with
  | nil => cases cs with
    | nil => rfl
    | cons d cs => simp [seg] at h
  | cons a ps ih => cases cs with
    | nil => simp [seg] at h
    | cons d cs =>
      simp only [seg, Bool.and_eq_true] at h
      rw [List.cons_append, List.cons_append, mt_one _ _ _ _ _ h.1, ih cs h.2]
/-- A segment takes as many bytes as it has. -/
theorem mt_take (eq : UInt8 → UInt8 → Bool) (ps P : List UInt8) (hp : ∀ x ∈ ps, x.toNat ≠ 42) (T : List UInt8) (h : mt eq (ps ++ P) T = true) : ps.length ≤ T.length ∧ mt eq P (T.drop ps.length) = true := by
  induction ps generalizing T with
  | nil => exact ⟨Nat.zero_le _, h⟩
  | cons a ps ih =>
    have ha := hp a (by simp)
    cases T with
    | nil => rw [List.cons_append, mt_plain_nil _ _ _ ha] at h; cases h
    | cons c T =>
      cases ho : one eq a c
      · rw [List.cons_append, mt_none _ _ _ _ _ ha ho] at h; cases h
      · rw [List.cons_append, mt_one _ _ _ _ _ ho] at h
        obtain ⟨h1, h2⟩ := ih (fun x hx => hp x (by simp [hx])) T h
        exact ⟨by simpa using h1, by simpa using h2⟩
theorem seg_plain (eq : UInt8 → UInt8 → Bool) (ps cs : List UInt8) (h : seg eq ps cs = true) : ∀ x ∈ ps, x.toNat ≠ 42 := by
  induction ps generalizing cs with
  | nil => intro x hx; cases hx
  | cons a ps ih => cases cs with
    | nil => simp [seg] at h
    | cons d cs =>
      simp only [seg, Bool.and_eq_true] at h
      intro x hx
      rcases List.mem_cons.1 hx with rfl | hx
      · exact (of_decide_eq_true h.1).1
      · exact ih cs h.2 x hx

/-- A new star: what lay before the segment no longer matters. -/
theorem star_next (eq : UInt8 → UInt8 → Bool) (s s' : UInt8) (ps cs Q T : List UInt8) (hs : s.toNat = 42) (hs' : s'.toNat = 42) (h : seg eq ps cs = true) : mt eq (s :: (ps ++ s' :: Q)) (cs ++ T) = mt eq (s' :: Q) T := by
  rw [Bool.eq_iff_iff]
  constructor
  · intro q
    rw [mt_star _ _ _ hs] at q
    obtain ⟨k, hk, r⟩ := q
    obtain ⟨h1, h2⟩ := mt_take eq ps (s' :: Q) (seg_plain eq ps cs h) _ r
    rw [List.drop_drop, seg_len eq ps cs h, Nat.add_comm, List.drop_append] at h2
    rw [List.drop_of_length_le (by omega), List.nil_append] at h2
    have h3 : mt eq (s' :: Q) (T.take (cs.length + k - cs.length) ++ T.drop (cs.length + k - cs.length)) = true := mt_more eq s' Q _ _ hs' (by simpa [Nat.add_comm] using h2)
    rwa [List.take_append_drop] at h3
  · intro q
    rw [mt_star _ _ _ hs]
    exact ⟨0, Nat.zero_le _, by rw [List.drop_zero, mt_seg eq ps cs _ _ h]; exact q⟩
/-- A mismatch: the star takes one byte more. -/
theorem star_miss (eq : UInt8 → UInt8 → Bool) (s : UInt8) (ps cs P T : List UInt8) (c : UInt8) (rest : List UInt8) (hs : s.toNat = 42) (h : seg eq ps cs = true) (hm : mt eq P T = false) (e : cs ++ T = c :: rest) : mt eq (s :: (ps ++ P)) (cs ++ T) = mt eq (s :: (ps ++ P)) rest := by
  have h1 := mt_seg eq ps cs P T h
  rw [e] at h1 ⊢
  rw [mt_star_cons _ _ _ _ _ hs, h1, hm, Bool.false_or]
/-- The text's end. -/
theorem star_end (eq : UInt8 → UInt8 → Bool) (s : UInt8) (ps cs P : List UInt8) (hs : s.toNat = 42) (h : seg eq ps cs = true) : mt eq (s :: (ps ++ P)) cs = mt eq P [] := by
  have h1 := mt_seg eq ps cs P [] h
  rw [List.append_nil] at h1
  rw [Bool.eq_iff_iff, mt_star _ _ _ hs]
  constructor
  · rintro ⟨k, hk, r⟩
    obtain ⟨h2, _⟩ := mt_take eq ps P (seg_plain eq ps cs h) _ r
    have h3 := seg_len eq ps cs h
    rw [List.length_drop] at h2
    have hk0 : k = 0 ∨ cs.length = 0 := by omega
    rcases hk0 with rfl | h0
    · rw [List.drop_zero, h1] at r; exact r
    · have : cs = [] := List.eq_nil_of_length_eq_zero h0
      subst this
      rw [List.drop_nil, h1] at r; exact r
  · intro q; exact ⟨0, Nat.zero_le _, by rw [List.drop_zero, h1]; exact q⟩
/-- No text: only stars match. -/
theorem mt_only (eq : UInt8 → UInt8 → Bool) (P : List UInt8) : mt eq P [] = P.all (fun p => p.toNat == 42) := by
  induction P with
  | nil => simp [mt]
  | cons p P ih =>
    by_cases h : p.toNat = 42
    · rw [mt_star_nil _ _ _ h, ih]; simp [h]
    · rw [mt_plain_nil _ _ _ h]; simp [h]

/-- A concatenation matches exactly if the text can be split. -/
theorem mt_split (eq : UInt8 → UInt8 → Bool) (Q : List UInt8) : ∀ (n : Nat) (P T : List UInt8), P.length + T.length ≤ n → (mt eq (P ++ Q) T = true ↔ ∃ k, k ≤ T.length ∧ mt eq P (T.take k) = true ∧ mt eq Q (T.drop k) = true) := by
  intro n
  induction n with
  | zero =>
    intro P T h
    have hP : P = [] := List.eq_nil_of_length_eq_zero (by omega)
    have hT : T = [] := List.eq_nil_of_length_eq_zero (by omega)
    subst hP; subst hT
    simp [mt]
  | succ n ih =>
    intro P T h
    cases P with
    | nil =>
      constructor
      · intro q; exact ⟨0, Nat.zero_le _, by simp [mt], by simpa using q⟩
      · rintro ⟨k, hk, h1, h2⟩
        rw [mt_nil] at h1
        have : T.take k = [] := by simpa using h1
        have h3 : k = 0 ∨ T.length = 0 := by
          have h4 := congrArg List.length this
          rw [List.length_take, List.length_nil] at h4; omega
        rcases h3 with rfl | h0
        · simpa using h2
        · have hT : T = [] := List.eq_nil_of_length_eq_zero h0
          subst hT; simpa using h2
    | cons p P =>
      simp only [List.length_cons] at h
      by_cases hp : p.toNat = 42
      · cases T with
        | nil =>
          rw [List.cons_append, mt_star_nil _ _ _ hp, ih P [] (by simp; omega)]
          constructor
          · rintro ⟨k, hk, h1, h2⟩; exact ⟨k, hk, by simpa [mt_star_nil _ _ _ hp] using h1, h2⟩
          · rintro ⟨k, hk, h1, h2⟩; exact ⟨k, hk, by simpa [mt_star_nil _ _ _ hp] using h1, h2⟩
        | cons c T =>
          simp only [List.length_cons] at h
          rw [List.cons_append, mt_star_cons _ _ _ _ _ hp, Bool.or_eq_true, ih P (c :: T) (by simp; omega), ← List.cons_append, ih (p :: P) T (by simp; omega)]
          constructor
          · rintro (⟨k, hk, h1, h2⟩ | ⟨k, hk, h1, h2⟩)
            · refine ⟨k, hk, ?_, h2⟩
              rw [mt_star _ _ _ hp]; exact ⟨0, Nat.zero_le _, by simpa using h1⟩
            · refine ⟨k + 1, by simpa using hk, ?_, by simpa using h2⟩
              rw [List.take_succ_cons, mt_star_cons _ _ _ _ _ hp, h1, Bool.or_true]
          · rintro ⟨k, hk, h1, h2⟩
            cases k with
            | zero =>
              rw [List.take_zero, mt_star_nil _ _ _ hp] at h1
              exact .inl ⟨0, Nat.zero_le _, by simpa using h1, h2⟩
            | succ k =>
              rw [List.take_succ_cons, mt_star_cons _ _ _ _ _ hp, Bool.or_eq_true] at h1
              rcases h1 with h1 | h1
              · exact .inl ⟨k + 1, hk, by rw [List.take_succ_cons]; exact h1, h2⟩
              · exact .inr ⟨k, by simpa using hk, h1, by simpa using h2⟩
      · cases T with
        | nil =>
          rw [List.cons_append, mt_plain_nil _ _ _ hp]
          constructor
          · intro q; cases q
          · rintro ⟨k, hk, h1, h2⟩
            rw [List.take_nil, mt_plain_nil _ _ _ hp] at h1; cases h1
        | cons c T =>
          simp only [List.length_cons] at h
          cases ho : one eq p c
          · rw [List.cons_append, mt_none _ _ _ _ _ hp ho]
            constructor
            · intro q; cases q
            · rintro ⟨k, hk, h1, h2⟩
              cases k with
              | zero => rw [List.take_zero, mt_plain_nil _ _ _ hp] at h1; cases h1
              | succ k => rw [List.take_succ_cons, mt_none _ _ _ _ _ hp ho] at h1; cases h1
          · rw [List.cons_append, mt_one _ _ _ _ _ ho, ih P T (by omega)]
            constructor
            · rintro ⟨k, hk, h1, h2⟩
              exact ⟨k + 1, by simpa using hk, by rw [List.take_succ_cons, mt_one _ _ _ _ _ ho]; exact h1, by simpa using h2⟩
            · rintro ⟨k, hk, h1, h2⟩
              cases k with
              | zero => rw [List.take_zero, mt_plain_nil _ _ _ hp] at h1; cases h1
              | succ k =>
                rw [List.take_succ_cons, mt_one _ _ _ _ _ ho] at h1
                exact ⟨k, by simpa using hk, h1, by simpa using h2⟩
theorem mt_app (eq : UInt8 → UInt8 → Bool) (P Q T : List UInt8) : mt eq (P ++ Q) T = true ↔ ∃ k, k ≤ T.length ∧ mt eq P (T.take k) = true ∧ mt eq Q (T.drop k) = true := mt_split eq Q _ P T (Nat.le_refl _)
theorem mt_both (eq : UInt8 → UInt8 → Bool) (P Q S T : List UInt8) (h1 : mt eq P S = true) (h2 : mt eq Q T = true) : mt eq (P ++ Q) (S ++ T) = true := by
  rw [mt_app]
  exact ⟨S.length, by simp, by simpa using h1, by simpa using h2⟩
theorem mt_any (eq : UInt8 → UInt8 → Bool) (p : UInt8) (hp : p.toNat = 42) (T : List UInt8) : mt eq [p] T = true := by
  rw [mt_star _ _ _ hp]; exact ⟨T.length, Nat.le_refl _, by simp [mt]⟩
/-- A glob's letters but stars: the least number of bytes. -/
def leastN (P : List UInt8) : Nat := (P.filter (fun p => p.toNat != 42)).length
theorem mt_least (eq : UInt8 → UInt8 → Bool) : ∀ (n : Nat) (P T : List UInt8), P.length + T.length ≤ n → mt eq P T = true → leastN P ≤ T.length := by
  intro n
  induction n with
  | zero =>
    intro P T h _
    have hP : P = [] := List.eq_nil_of_length_eq_zero (by omega)
    subst hP; simp [leastN]
  | succ n ih =>
    intro P T h q
    cases P with
    | nil => simp [leastN]
    | cons p P =>
      simp only [List.length_cons] at h
      by_cases hp : p.toNat = 42
      · have e : leastN (p :: P) = leastN P := by simp [leastN, hp]
        rw [e]
        rw [mt_star _ _ _ hp] at q
        obtain ⟨k, hk, r⟩ := q
        have := ih P (T.drop k) (by simp; omega) r
        rw [List.length_drop] at this
        omega
      · have e : leastN (p :: P) = leastN P + 1 := by simp [leastN, hp]
        rw [e]
        cases T with
        | nil => rw [mt_plain_nil _ _ _ hp] at q; cases q
        | cons c T =>
          simp only [List.length_cons] at h
          cases ho : one eq p c
          · rw [mt_none _ _ _ _ _ hp ho] at q; cases q
          · rw [mt_one _ _ _ _ _ ho] at q
            have := ih P T (by omega) q
            simp; omega
end Go.Proofs.YtolfpkjohlbfdaaDoor
