/-
  Whole literals: what is read is valid, and reaches no further than its end; cut it ends too early, or in a code point.
-/
import Derived.Test.YtbhgfdgdbbfeoaaDoorFro
namespace Go.Proofs.YtbhgfdgdbbfeoaaDoor
open Go.RowKit

theorem take_add' (l : List UInt8) (n j : Nat) (h : n ≤ j) : l.take j = l.take n ++ (l.drop n).take (j - n) := by
  rw [← List.take_add, show n + (j - n) = j by omega]

structure WellU (k : Nat) (l : List UInt8) : Prop where
  pts : Pts (unqF k l).1
  pos : 1 ≤ (unqF k l).2.1
  le : (unqF k l).2.1 ≤ l.length
  same : ∀ t i, (unqF k l).2.1 ≤ i → unqF i (l.take (unqF k l).2.1 ++ t) = unqF k l
  cut : ∀ j, j < (unqF k l).2.1 → ∀ i, (unqF i (l.take j)).2.2 = 3 ∨ (unqF i (l.take j)).2.2 = 6

theorem unqF_end (k : Nat) (c : UInt8) (t : List UInt8) (h : c.toNat = 34) : unqF (k + 1) (c :: t) = ([], 1, 0) := by rw [unqF, if_pos h]
theorem unqF_bad (k : Nat) (l : List UInt8) (hn : l ≠ []) (h : (l.getD 0 0).toNat ≠ 34) (e : (pieceL l).2.2 ≠ 0) : unqF (k + 1) l = ([], 0, (pieceL l).2.2) := by
  match l, hn with
  | [], hn => exact absurd rfl hn
  | c :: t, _ =>
    have h' : ¬ c.toNat = 34 := h
    rw [unqF, if_neg h', if_pos e]
theorem unqF_more (k : Nat) (l : List UInt8) (hn : l ≠ []) (h : (l.getD 0 0).toNat ≠ 34) (e : (pieceL l).2.2 = 0) :
    unqF (k + 1) l = if (unqF k (l.drop (pieceL l).2.1)).2.2 ≠ 0 then ([], 0, (unqF k (l.drop (pieceL l).2.1)).2.2) else ((pieceL l).1 ++ (unqF k (l.drop (pieceL l).2.1)).1, (pieceL l).2.1 + (unqF k (l.drop (pieceL l).2.1)).2.1, 0) := by
  match l, hn with
  | [], hn => exact absurd rfl hn
  | c :: t, _ =>
    have h' : ¬ c.toNat = 34 := h
    rw [unqF, if_neg h', if_neg (by rw [e]; decide)]
theorem unqF_err (i : Nat) : ∀ l : List UInt8, (unqF i l).2.2 ≠ 0 → (unqF i l).1 = [] ∧ (unqF i l).2.1 = 0 := by
  induction i with
  | zero => intro l _; exact ⟨rfl, rfl⟩
  | succ i ih =>
    intro l h
    by_cases hn : l = []
    · rw [unqF_none _ _ hn]; exact ⟨rfl, rfl⟩
    by_cases h34 : (l.getD 0 0).toNat = 34
    · match l, hn, h34, h with
      | [], hn, _, _ => exact absurd rfl hn
      | c :: t, _, h34, h => rw [unqF_end i c t h34] at h; simp at h
    by_cases e : (pieceL l).2.2 = 0
    · rw [unqF_more i l hn h34 e] at h ⊢
      split
      · exact ⟨rfl, rfl⟩
      · rename_i g; rw [if_neg g] at h; simp at h
    · rw [unqF_bad i l hn h34 e]; exact ⟨rfl, rfl⟩
theorem ne_take {l : List UInt8} (hn : l ≠ []) (j : Nat) (hj : 0 < j) : l.take j ≠ [] := by
  match l, hn, j, hj with
  | [], hn, _, _ => exact absurd rfl hn
  | c :: t, _, j + 1, _ => simp
theorem head_take {l : List UInt8} (hn : l ≠ []) (j : Nat) (hj : 0 < j) (m : List UInt8) : (l.take j ++ m).getD 0 0 = l.getD 0 0 := by
  match l, hn, j, hj with
  | [], hn, _, _ => exact absurd rfl hn
  | c :: t, _, j + 1, _ => rfl

theorem wellU (k : Nat) : ∀ l : List UInt8, (unqF k l).2.2 = 0 → WellU k l := by
  induction k with
  | zero => intro l h; simp [unqF] at h
  | succ k ih =>
    intro l h
    by_cases hn : l = []
    · rw [unqF_none _ _ hn] at h; simp at h
    by_cases h34 : (l.getD 0 0).toNat = 34
    · match l, hn, h34 with
      | [], hn, _ => exact absurd rfl hn
      | c :: t, _, h34 =>
        have e := unqF_end k c t h34
        refine ⟨by rw [e]; exact .nil, by rw [e]; simp, by rw [e]; simp, ?_, ?_⟩
        · intro u i hi
          rw [e] at hi ⊢
          obtain ⟨i, rfl⟩ : ∃ j, i = j + 1 := ⟨i - 1, by simp only at hi; omega⟩
          exact unqF_end i c _ h34
        · intro j hj i
          rw [e] at hj
          obtain rfl : j = 0 := by simp only at hj; omega
          left; rw [List.take_zero, unqF_none _ _ rfl]
    by_cases e : (pieceL l).2.2 = 0
    · have w := well l hn e
      obtain ⟨r, hr, ho⟩ := w.pts
      have hm := unqF_more k l hn h34 e
      by_cases hu : (unqF k (l.drop (pieceL l).2.1)).2.2 = 0
      · rw [if_neg (by rw [hu]; decide)] at hm
        have i0 := ih _ hu
        have hle : (pieceL l).2.1 + (unqF k (l.drop (pieceL l).2.1)).2.1 ≤ l.length := by
          have := i0.le; rw [List.length_drop] at this; have := w.le; omega
        refine ⟨?_, ?_, ?_, ?_, ?_⟩
        · rw [hm]; show Pts (_ ++ _); rw [ho]; exact .cons r _ hr i0.pts
        · rw [hm]; show 1 ≤ _ + _; have := w.pos; omega
        · rw [hm]; exact hle
        · intro t i hi
          rw [hm] at hi ⊢
          simp only at hi ⊢
          have hpos := w.pos
          obtain ⟨i, rfl⟩ : ∃ j, i = j + 1 := ⟨i - 1, by omega⟩
          have e1 : l.take ((pieceL l).2.1 + (unqF k (l.drop (pieceL l).2.1)).2.1) ++ t = l.take (pieceL l).2.1 ++ ((l.drop (pieceL l).2.1).take (unqF k (l.drop (pieceL l).2.1)).2.1 ++ t) := by
            rw [List.take_add, List.append_assoc]
          have hlen : (l.take (pieceL l).2.1).length = (pieceL l).2.1 := by rw [List.length_take]; have := w.le; omega
          rw [e1]
          have e2 := w.same ((l.drop (pieceL l).2.1).take (unqF k (l.drop (pieceL l).2.1)).2.1 ++ t)
          have hne : l.take (pieceL l).2.1 ++ ((l.drop (pieceL l).2.1).take (unqF k (l.drop (pieceL l).2.1)).2.1 ++ t) ≠ [] := by
            simp [ne_take hn _ hpos]
          have hh := head_take hn _ hpos ((l.drop (pieceL l).2.1).take (unqF k (l.drop (pieceL l).2.1)).2.1 ++ t)
          rw [unqF_more i _ hne (by rw [hh]; exact h34) (by rw [e2]; exact e), e2]
          have e3 : (l.take (pieceL l).2.1 ++ ((l.drop (pieceL l).2.1).take (unqF k (l.drop (pieceL l).2.1)).2.1 ++ t)).drop (pieceL l).2.1 = (l.drop (pieceL l).2.1).take (unqF k (l.drop (pieceL l).2.1)).2.1 ++ t := by
            rw [List.drop_append_of_le_length (by omega), List.drop_of_length_le (by omega), List.nil_append]
          rw [e3, i0.same t i (by omega), if_neg (by rw [hu]; decide)]
        · intro j hj i
          rw [hm] at hj
          simp only at hj
          cases i with
          | zero => left; rfl
          | succ i =>
            by_cases hj0 : j = 0
            · subst hj0; left; rw [List.take_zero, unqF_none _ _ rfl]
            have hnj := ne_take hn j (by omega)
            have hh := head_take hn j (by omega) []
            rw [List.append_nil] at hh
            by_cases hjp : j < (pieceL l).2.1
            · have c := w.cut j (by omega) hjp
              have : (pieceL (l.take j)).2.2 ≠ 0 := by omega
              rw [unqF_bad i _ hnj (by rw [hh]; exact h34) this]; exact c
            · have e1 := take_add' l (pieceL l).2.1 j (by omega)
              have e2 := w.same ((l.drop (pieceL l).2.1).take (j - (pieceL l).2.1))
              rw [← e1] at e2
              have hlen : (l.take (pieceL l).2.1).length = (pieceL l).2.1 := by rw [List.length_take]; have := w.le; omega
              rw [unqF_more i _ hnj (by rw [hh]; exact h34) (by rw [e2]; exact e), e2]
              have e3 : (l.take j).drop (pieceL l).2.1 = (l.drop (pieceL l).2.1).take (j - (pieceL l).2.1) := by
                rw [e1, List.drop_append_of_le_length (by omega), List.drop_of_length_le (by omega), List.nil_append]
              rw [e3]
              have c := i0.cut (j - (pieceL l).2.1) (by omega) i
              rw [if_pos (by omega)]
              exact c
      · rw [if_pos hu] at hm
        rw [hm] at h; exact absurd h hu
    · rw [unqF_bad k l hn h34 e] at h; exact absurd h e

theorem unqL_err (l : List UInt8) (h : (unqL l).2.2 ≠ 0) : (unqL l).1 = [] ∧ (unqL l).2.1 = 0 := by
  revert h
  unfold unqL
  split
  · intro _; exact ⟨rfl, rfl⟩
  · split
    · intro _; exact ⟨rfl, rfl⟩
    · unfold joinU
      split
      · intro _; exact ⟨rfl, rfl⟩
      · intro h; simp at h
structure WellL (l : List UInt8) : Prop where
  pts : Pts (unqL l).1
  pos : 2 ≤ (unqL l).2.1
  le : (unqL l).2.1 ≤ l.length
  same : ∀ t, unqL (l.take (unqL l).2.1 ++ t) = unqL l
  cut : ∀ j, j < (unqL l).2.1 → (unqL (l.take j)).2.2 = 3 ∨ (unqL (l.take j)).2.2 = 6
theorem unqL_cons (c : UInt8) (t : List UInt8) (h : c.toNat = 34) : unqL (c :: t) = joinU [] 1 (unqF (t.length + 1) t) := by
  unfold unqL
  rw [if_neg (by simp), if_neg (by simpa using h)]; rfl
theorem wellL (l : List UInt8) (h : (unqL l).2.2 = 0) : WellL l := by
  match l, h with
  | [], h => simp [unqL] at h
  | c :: t, h =>
    by_cases h34 : c.toNat = 34
    · have e := unqL_cons c t h34
      by_cases hu : (unqF (t.length + 1) t).2.2 = 0
      · have w := wellU _ t hu
        have ej : joinU [] 1 (unqF (t.length + 1) t) = ((unqF (t.length + 1) t).1, 1 + (unqF (t.length + 1) t).2.1, 0) := by
          unfold joinU; rw [if_neg (by rw [hu]; decide)]; simp
        rw [ej] at e
        refine ⟨by rw [e]; exact w.pts, ?_, ?_, ?_, ?_⟩
        · have h1 := w.pos
          rw [e]; simp only; omega
        · have h1 := w.le
          rw [e]; simp only [List.length_cons]; omega
        · intro u
          rw [e]
          show unqL ((c :: t).take (1 + _) ++ u) = _
          rw [Nat.add_comm, List.take_succ_cons, List.cons_append, unqL_cons c _ h34]
          have hs := w.same u ((t.take (unqF (t.length + 1) t).2.1 ++ u).length + 1) (by
            rw [List.length_append, List.length_take]; have := w.le; omega)
          rw [hs, ej, Nat.add_comm 1]
        · intro j hj
          rw [e] at hj
          simp only at hj
          cases j with
          | zero => left; rfl
          | succ j =>
            rw [List.take_succ_cons, unqL_cons c _ h34]
            have hc := w.cut j (by omega) ((t.take j).length + 1)
            rw [joinU_err _ _ _ (by omega)]
            exact hc
      · rw [e, joinU_err _ _ _ hu] at h; exact absurd h hu
    · unfold unqL at h
      rw [if_neg (by simp), if_pos (by simpa using h34)] at h
      simp at h

/-- The bytes of a literal. -/
theorem told_ge (c : UInt8) : ∀ x ∈ told c, 32 ≤ x.toNat := by
  have hc := c.toNat_lt
  unfold told
  by_cases h : c.toNat < 128
  · rcases told_cases c.toNat h with ⟨e, hr⟩ | ⟨e, hr⟩ | ⟨e, hr⟩ | ⟨e, hr⟩ | ⟨e, hr⟩ | ⟨e, hr⟩ | ⟨hr, e⟩ | ⟨hr, g1, g2, e⟩
    · rw [e]; intro x hx; simp only [List.mem_cons, List.not_mem_nil, or_false] at hx; rcases hx with rfl | rfl
      · decide
      · rw [u8n (by omega)]; omega
    · rw [e]; decide
    · rw [e]; decide
    · rw [e]; decide
    · rw [e]; decide
    · rw [e]; decide
    · rw [e]
      have hh : ∀ k, k < 16 → 32 ≤ (hexD k).toNat := by decide
      intro x hx; simp only [List.mem_cons, List.not_mem_nil, or_false] at hx
      rcases hx with rfl | rfl | rfl | rfl | rfl | rfl
      · decide
      · decide
      · decide
      · decide
      · exact hh _ (by omega)
      · exact hh _ (by omega)
    · rw [e]; intro x hx; simp only [List.mem_singleton] at hx; rw [hx, u8n (by omega)]; omega
  · have e : toldN c.toNat = [c] := told_high c (by omega)
    rw [e]; intro x hx; simp only [List.mem_singleton] at hx; rw [hx]; omega
theorem quote_ge (l : List UInt8) : ∀ x ∈ quoteL l, 32 ≤ x.toNat := by
  intro x hx
  unfold quoteL at hx
  simp only [List.mem_cons, List.mem_append, List.mem_flatMap, List.not_mem_nil, or_false] at hx
  rcases hx with rfl | ⟨c, _, hc⟩ | rfl
  · decide
  · exact told_ge c x hc
  · decide
theorem quoteL_len (l : List UInt8) : (quoteL l).length ≤ 6 * l.length + 2 := by
  have := flat_told_len l
  unfold quoteL
  rw [List.length_cons, List.length_append, List.length_singleton]; omega
end Go.Proofs.YtbhgfdgdbbfeoaaDoor
