/-
  Plain facts for the document's own Match of globs: the table of fronts.
-/
import Derived.Test.YtolfpkjohlbfdaaDoorGrc
namespace Go.Proofs.YtolfpkjohlbfdaaDoor
open Go.RowKit

theorem mt_app' (eq : UInt8 → UInt8 → Bool) (P A T : List UInt8) : mt eq (P ++ A) T = true ↔ ∃ k, k ≤ T.length ∧ mt eq P (T.take k) = true ∧ mt eq A (T.drop k) = true := mt_app eq P A T
/-- The last letter of a front, and the last byte of a text. -/
theorem mt_snoc_star (eq : UInt8 → UInt8 → Bool) (P T : List UInt8) (p c : UInt8) (h : p.toNat = 42) : mt eq (P ++ [p]) (T ++ [c]) = (mt eq P (T ++ [c]) || mt eq (P ++ [p]) T) := by
  rw [Bool.eq_iff_iff, Bool.or_eq_true, mt_app, mt_app]
  constructor
  · rintro ⟨k, hk, h1, _⟩
    rw [List.length_append, List.length_singleton] at hk
    by_cases e : k = T.length + 1
    · left
      rw [List.take_of_length_le (by simp; omega)] at h1
      exact h1
    · right
      refine ⟨k, by omega, ?_, mt_any eq p h _⟩
      rw [List.take_append_of_le_length (by omega)] at h1
      exact h1
  · rintro (h1 | ⟨k, hk, h1, _⟩)
    · exact ⟨(T ++ [c]).length, Nat.le_refl _, by rw [List.take_length]; exact h1, mt_any eq p h _⟩
    · refine ⟨k, by simp; omega, ?_, mt_any eq p h _⟩
      rw [List.take_append_of_le_length hk]
      exact h1
theorem mt_snoc_nil (eq : UInt8 → UInt8 → Bool) (P : List UInt8) (p : UInt8) (h : p.toNat = 42) : mt eq (P ++ [p]) [] = mt eq P [] := by
  rw [Bool.eq_iff_iff, mt_app]
  constructor
  · rintro ⟨k, hk, h1, _⟩; simpa using h1
  · intro h1; exact ⟨0, Nat.le_refl _, by simpa using h1, mt_any eq p h _⟩
theorem mt_single (eq : UInt8 → UInt8 → Bool) (p : UInt8) (D : List UInt8) (h : p.toNat ≠ 42) : mt eq [p] D = true ↔ ∃ d, D = [d] ∧ one eq p d = true := by
  cases D with
  | nil => rw [mt_plain_nil _ _ _ h]; simp
  | cons d D =>
    cases ho : one eq p d
    · rw [mt_none _ _ _ _ _ h ho]
      constructor
      · intro e; cases e
      · rintro ⟨x, e, hx⟩
        have e1 : d = x := by have := congrArg List.head? e; simpa using this
        rw [← e1, ho] at hx; cases hx
    · rw [mt_one _ _ _ _ _ ho, mt_nil]
      constructor
      · intro e
        have : D = [] := by simpa using e
        exact ⟨d, by rw [this], ho⟩
      · rintro ⟨x, e, hx⟩
        have : D = [] := by have := congrArg List.tail e; simpa using this
        rw [this]; rfl
theorem mt_snoc_plain_nil (eq : UInt8 → UInt8 → Bool) (P : List UInt8) (p : UInt8) (h : p.toNat ≠ 42) : mt eq (P ++ [p]) [] = false := by
  rw [Bool.eq_false_iff, Ne, mt_app]
  rintro ⟨k, hk, _, h2⟩
  rw [mt_single _ _ _ h] at h2
  obtain ⟨d, e, _⟩ := h2
  simp at e
theorem mt_snoc_plain (eq : UInt8 → UInt8 → Bool) (P T : List UInt8) (p c : UInt8) (h : p.toNat ≠ 42) : mt eq (P ++ [p]) (T ++ [c]) = (one eq p c && mt eq P T) := by
  rw [Bool.eq_iff_iff, Bool.and_eq_true, mt_app]
  constructor
  · rintro ⟨k, hk, h1, h2⟩
    rw [mt_single _ _ _ h] at h2
    obtain ⟨d, e, ho⟩ := h2
    have hl := congrArg List.length e
    simp only [List.length_drop, List.length_append, List.length_singleton] at hl hk
    obtain rfl : k = T.length := by omega
    rw [List.drop_left'] at e <;> try rfl
    rw [List.take_left'] at h1 <;> try rfl
    simp at e
    subst e
    exact ⟨ho, h1⟩
  · rintro ⟨ho, h1⟩
    refine ⟨T.length, by simp, ?_, ?_⟩
    · rw [List.take_left' rfl]; exact h1
    · rw [List.drop_left' rfl, mt_single _ _ _ h]; exact ⟨c, rfl, ho⟩

theorem take_snoc' (N : List UInt8) (j : Nat) (h : j < N.length) : N.take (j + 1) = N.take j ++ [N.getD j 0] := by
  rw [List.take_succ_eq_append_getElem h]; simp [h]
/-- What the front of i letters matches of the front of k bytes. -/
def Mf (P T : List UInt8) (i k : Nat) : Bool := mt (eqB false) (P.take i) (T.take k)
theorem Mf_zero (P T : List UInt8) (k : Nat) (hk : k ≤ T.length) : Mf P T 0 k = (k == 0) := by
  unfold Mf; rw [List.take_zero, mt_nil]
  cases k with
  | zero => rfl
  | succ k =>
    rw [Bool.eq_iff_iff, List.isEmpty_iff]
    simp
    intro e; rw [e] at hk; simp at hk
theorem Mf_end (P T : List UInt8) : Mf P T P.length T.length = mt (eqB false) P T := by unfold Mf; rw [List.take_length, List.take_length]
theorem Mf_star0 (P T : List UInt8) (i : Nat) (hi : i < P.length) (h : (P.getD i 0).toNat = 42) : Mf P T (i + 1) 0 = Mf P T i 0 := by
  unfold Mf; rw [take_snoc' P i hi, List.take_zero]; exact mt_snoc_nil _ _ _ h
theorem Mf_star (P T : List UInt8) (i k : Nat) (hi : i < P.length) (hk : k < T.length) (h : (P.getD i 0).toNat = 42) : Mf P T (i + 1) (k + 1) = (Mf P T i (k + 1) || Mf P T (i + 1) k) := by
  unfold Mf; rw [take_snoc' P i hi, take_snoc' T k hk]; exact mt_snoc_star _ _ _ _ _ h
theorem Mf_plain0 (P T : List UInt8) (i : Nat) (hi : i < P.length) (h : (P.getD i 0).toNat ≠ 42) : Mf P T (i + 1) 0 = false := by
  unfold Mf; rw [take_snoc' P i hi, List.take_zero]; exact mt_snoc_plain_nil _ _ _ h
theorem Mf_plain (P T : List UInt8) (i k : Nat) (hi : i < P.length) (hk : k < T.length) (h : (P.getD i 0).toNat ≠ 42) : Mf P T (i + 1) (k + 1) = (one (eqB false) (P.getD i 0) (T.getD k 0) && Mf P T i k) := by
  unfold Mf; rw [take_snoc' P i hi, take_snoc' T k hk]; exact mt_snoc_plain _ _ _ _ _ h
theorem one_63 (p c : UInt8) (h : p.toNat = 63) : one (eqB false) p c = true := by
  unfold one; exact decide_eq_true ⟨by omega, .inl h⟩
theorem one_not (p c : UInt8) (h : p.toNat ≠ 42) (h' : p.toNat ≠ 63) : one (eqB false) p c = ((p.toNat : Int) == (c.toNat : Int)) := by
  rw [nat_eq]; unfold one; rw [Bool.eq_iff_iff, decide_eq_true_eq]
  simp [eqB, h, h']

/-- Folding both sides is matching under folding. -/
theorem low_nat' (c : UInt8) (n : Nat) (h : n = 42 ∨ n = 63) : (lowC c).toNat = n ↔ c.toNat = n := by
  unfold lowC
  split
  · rename_i g
    rw [UInt8.toNat_add]
    simp only [show (32 : UInt8).toNat = 32 from rfl]
    omega
  · exact Iff.rfl
theorem one_fold (p c : UInt8) : one (eqB false) (lowC p) (lowC c) = one (eqB true) p c := by
  unfold one
  rw [decide_eq_decide, Ne, Ne, low_nat' p 42 (.inl rfl), low_nat' p 63 (.inr rfl)]
  simp [eqB]
theorem mt_fold (P : List UInt8) : ∀ T, mt (eqB false) (lowL P) (lowL T) = mt (eqB true) P T := by
  induction P with
  | nil => intro T; rw [show lowL [] = [] from rfl, mt_nil, mt_nil]; cases T <;> rfl
  | cons p P ih =>
    intro T
    rw [show lowL (p :: P) = lowC p :: lowL P from rfl]
    by_cases h : p.toNat = 42
    · have h' : (lowC p).toNat = 42 := (low_nat' p 42 (.inl rfl)).2 h
      rw [Bool.eq_iff_iff, mt_star _ _ _ h', mt_star _ _ _ h]
      have e : (lowL T).length = T.length := by simp [lowL]
      rw [e]
      constructor
      · rintro ⟨k, hk, q⟩
        refine ⟨k, hk, ?_⟩
        rw [← ih, show lowL (T.drop k) = (lowL T).drop k from by simp [lowL]]; exact q
      · rintro ⟨k, hk, q⟩
        refine ⟨k, hk, ?_⟩
        rw [← ih, show lowL (T.drop k) = (lowL T).drop k from by simp [lowL]] at q; exact q
    · have h' : (lowC p).toNat ≠ 42 := fun e => h ((low_nat' p 42 (.inl rfl)).1 e)
      cases T with
      | nil => rw [show lowL [] = [] from rfl, mt_plain_nil _ _ _ h', mt_plain_nil _ _ _ h]
      | cons c T =>
        rw [show lowL (c :: T) = lowC c :: lowL T from rfl]
        have ho := one_fold p c
        cases hb : one (eqB true) p c
        · rw [hb] at ho
          rw [mt_none _ _ _ _ _ h' ho, mt_none _ _ _ _ _ h hb]
        · rw [hb] at ho
          rw [mt_one _ _ _ _ _ ho, mt_one _ _ _ _ _ hb, ih]

/-- A row of truth values of the call's own. -/
def RowB (w : World) (B m : Nat) (f : Nat → Bool) : Prop := ∀ j, j < m → w.cell? ⟨B, j, none⟩ = some (.bool (f j)) ∧ w.frozen? ⟨B, j, none⟩ = false
theorem RowB.congr {w : World} {B m : Nat} {f g : Nat → Bool} (h : RowB w B m f) (e : ∀ j, j < m → f j = g j) : RowB w B m g := fun j hj => by rw [← e j hj]; exact h j hj
theorem RowB.lt {w : World} {B m : Nat} {f : Nat → Bool} (h : RowB w B m f) (hm : 0 < m) : B < w.heap.size := World.block_lt_of_cell? _ _ (h 0 hm).1
theorem RowB.keeps {w w' : World} {B m : Nat} {f : Nat → Bool} (h : RowB w B m f) (k : Keeps w w') : RowB w' B m f := by
  intro j hj
  have hB := World.block_lt_of_cell? _ _ (h j hj).1
  exact ⟨(k.cell (h j hj).1), (Below.frozen k (p := ⟨B, j, none⟩) hB).trans (h j hj).2⟩
theorem RowB.drew {w : World} {B m : Nat} {f : Nat → Bool} (h : RowB w B m f) : RowB w.drew B m f := h
theorem RowB.other {w : World} {B C m : Nat} {f : Nat → Bool} (h : RowB w B m f) (hne : B ≠ C) (k : Nat) (v : Value) : RowB (w.setCell ⟨C, k, none⟩ v) B m f := by
  intro j hj
  refine ⟨?_, (World.frozen?_setCell _ _ _ _).trans (h j hj).2⟩
  rw [World.cell?_setCell_other _ _ _ _ (by simp [hne, Ne.symm hne])]
  exact (h j hj).1
/-- The row as far as it is written. -/
def preB (F : Nat → Bool) (k : Nat) : Nat → Bool := fun j => decide (j < k) && F j
theorem RowB.put {w : World} {C m k : Nat} {F : Nat → Bool} {b : Bool} (h : RowB w C m (preB F k)) (hk : k < m) (hb : b = F k) : RowB (w.setCell ⟨C, k, none⟩ (.bool b)) C m (preB F (k + 1)) := by
  intro j hj
  refine ⟨?_, (World.frozen?_setCell _ _ _ _).trans (h j hj).2⟩
  by_cases e : k = j
  · subst e
    rw [World.cell?_setCell_same _ _ _ (h k hk).1, hb]
    simp [preB]
  · rw [World.cell?_setCell_other _ _ _ _ (by simp [e]), (h j hj).1]
    have : decide (j < k) = decide (j < k + 1) := by rw [decide_eq_decide]; omega
    simp [preB, this]
theorem RowB.skip {w : World} {C m k : Nat} {F : Nat → Bool} (h : RowB w C m (preB F k)) (hb : F k = false) : RowB w C m (preB F (k + 1)) := by
  refine h.congr (fun j hj => ?_)
  unfold preB
  by_cases e : j = k
  · subst e; simp [hb]
  · have : decide (j < k) = decide (j < k + 1) := by rw [decide_eq_decide]; omega
    rw [this]
theorem RowB.full {w : World} {C m k : Nat} {F : Nat → Bool} (h : RowB w C m (preB F k)) (hk : m ≤ k) : RowB w C m F :=
  h.congr (fun j hj => by simp [preB]; intro; omega)
theorem infoQ : (Tryd.prog.info? 4).map (fun i => (i.zero, i.size, i.bytes)) = some (some (.bool false), 1, 1) := by kernel_rfl
theorem make_set (t : TypeId) (ht : Tryd.prog.underlying t = some (.slice 4)) (w : World) (m : Nat) (hm : m ≤ 100000) : ∃ W1, (∀ x : Int, x = m → (Instr.makeSlice t (.int .i64 x) (.int .i64 x)).run Tryd.prog w = .ok (.slice (some ⟨w.heap.size, 0, none⟩) m m) W1) ∧ RowB W1 w.heap.size m (fun _ => false) ∧ Keeps w W1 := by
  obtain ⟨i0, hi, hz0, hz1, hz2⟩ := info_parts infoQ
  obtain ⟨W1, hr, ho, hg⟩ := run_make_full (P := Tryd.prog) w w.heap.size t 4 i0 (.bool false) 1 ht hi hz0 hz1 .i64 .i64 m (by rw [hz2]; omega) (by unfold maxLen; omega) (Nat.le_refl _)
  refine ⟨W1, fun x hx => by rw [hx]; exact hr, ?_, (Keeps.refl w).grown hg (Nat.le_refl _) (fun k e => by cases e)⟩
  intro j hj
  refine ⟨?_, ho.frozenAt j⟩
  rw [ho.cellAt j (by omega)]
  show (madeCells #[.bool false] (m * 1)).toList[j]? = _
  rw [toList_madeCells_one]
  simp [hj]
end Go.Proofs.YtolfpkjohlbfdaaDoor
