/-
  What follows a value does not matter, but for a digit behind a number: of package json.
-/
import Derived.Test.YtljkeladdplhlaaDoorExu
namespace Go.Proofs.YtljkeladdplhlaaDoor
open Go.RowKit

theorem digs_app (D t : List UInt8) (hD : ∀ c, c ∈ D → digB c = true) (ht : ND t) : digs (D ++ t) = D := by
  unfold digs
  induction D with
  | nil =>
    match t, ht with
    | [], _ => rfl
    | c :: u, ht => rw [List.nil_append, List.takeWhile_cons, ht c u rfl]; rfl
  | cons x b ih =>
    rw [List.cons_append, List.takeWhile_cons, hD x (by simp)]
    simp only [if_true]
    rw [ih (fun c hc => hD c (by simp [hc]))]
theorem readS_ext (P D R : List UInt8) (n : Int) (m : Nat) (hD : digs (D ++ R) = D) (hm : ∀ c, c ∈ D → digB c = true) (h : readS P.length (P ++ (D ++ R)) = (n, m, 0)) : D ≠ [] ∧ m = P.length + D.length ∧ ∀ t, ND t → readS P.length (P ++ (D ++ t)) = (n, m, 0) := by
  unfold readS at h
  rw [drop_app, hD] at h
  by_cases h1 : P.length = (P ++ (D ++ R)).length
  · rw [if_pos h1] at h; simp at h
  · rw [if_neg h1] at h
    by_cases h2 : digB ((P ++ (D ++ R)).getD P.length 0) = false
    · rw [if_pos h2] at h; simp at h
    · rw [if_neg h2] at h
      have hne : D ≠ [] := by
        rintro rfl
        rw [List.nil_append] at h2 hD
        match R, hD with
        | [], _ => simp at h2; exact absurd h2 (by decide)
        | c :: u, hD =>
          have hc : digB c = true := by simpa using h2
          unfold digs at hD
          rw [List.takeWhile_cons, hc] at hD
          simp at hD
      have hg : ∀ t, (P ++ (D ++ t)).getD P.length 0 = (P ++ (D ++ R)).getD P.length 0 := fun t => by
        match D, hne with
        | d :: D', _ => simp [List.getD_eq_getElem?_getD]
      have hm' : m = P.length + D.length := by
        split at h
        · simp at h
        · split at h
          · simp at h
          · simp only [Prod.mk.injEq] at h; exact h.2.1.symm
      refine ⟨hne, hm', fun t ht => ?_⟩
      unfold readS
      rw [drop_app, digs_app D t hm ht, if_neg (by
        intro e
        have := congrArg id e
        simp only [List.length_append, id] at this
        have : 0 < D.length := List.length_pos_iff.2 hne
        omega), hg t, if_neg h2]
      exact h
theorem num_ext (l : List UInt8) (j : J) (m : Nat) (c0 : UInt8) (u0 : List UInt8) (hl : l = c0 :: u0) (hc0 : c0.toNat = 45 ∨ digB c0 = true) (h : numJ l = (j, m, 0)) : ∃ A R, l = A ++ R ∧ m = A.length ∧ (∃ A', A = c0 :: A') ∧ kindJ j = 3 ∧ ∀ t, ND t → numJ (A ++ t) = (j, m, 0) := by
  unfold numJ at h
  obtain ⟨n, k, x, hr⟩ : ∃ n k x, readL l = (n, k, x) := ⟨_, _, _, rfl⟩
  rw [hr] at h
  simp only at h
  by_cases hx : x ≠ 0
  · rw [if_pos hx] at h; unfold jerr at h; simp only [Prod.mk.injEq] at h; exact absurd h.2.2 hx
  · rw [if_neg hx] at h
    have hx0 := Classical.not_not.1 hx
    subst hx0
    simp only [Prod.mk.injEq, and_true] at h
    obtain ⟨rfl, rfl⟩ := h
    subst hl
    unfold readL at hr
    have tw : ∀ v : List UInt8, v = digs v ++ v.dropWhile digB := fun v => (List.takeWhile_append_dropWhile).symm
    by_cases hm : c0.toNat = 45
    · have hc : c0 = 45 := UInt8.toNat_inj.1 hm
      subst hc
      have hp : ∀ v : List UInt8, Lib.hasPrefix (45 :: v) [45] = true := fun v => by simp [Lib.hasPrefix]
      rw [if_pos (hp u0)] at hr
      obtain ⟨hne, e, hx⟩ := readS_ext [45] (digs u0) (u0.dropWhile digB) n k (by rw [← tw]) (fun c hc => tw_mem _ _ _ hc) (by rw [← tw]; exact hr)
      refine ⟨45 :: digs u0, u0.dropWhile digB, by rw [List.cons_append, ← tw], by rw [e]; simp; omega, ⟨_, rfl⟩, rfl, fun t ht => ?_⟩
      unfold numJ
      have e2 : readL (45 :: digs u0 ++ t) = (n, k, 0) := by
        unfold readL
        rw [List.cons_append, if_pos (hp _)]
        exact hx t ht
      rw [e2]; rfl
    · have hd := hc0.resolve_left hm
      have hp : ∀ v : List UInt8, Lib.hasPrefix (c0 :: v) [45] = false := fun v => by
        have : c0 ≠ 45 := fun e => hm (by rw [e]; rfl)
        have h45 : ((45 : UInt8) == c0) = false := beq_false_of_ne (Ne.symm this)
        simp [Lib.hasPrefix, List.isPrefixOf, h45]
      rw [if_neg (by rw [hp]; decide)] at hr
      obtain ⟨hne, e, hx⟩ := readS_ext [] (digs (c0 :: u0)) ((c0 :: u0).dropWhile digB) n k (by rw [← tw]) (fun c hc => tw_mem _ _ _ hc) (by rw [← tw]; exact hr)
      have hcons : ∃ D', digs (c0 :: u0) = c0 :: D' := by unfold digs; rw [List.takeWhile_cons, hd]; exact ⟨_, rfl⟩
      obtain ⟨D', hD'⟩ := hcons
      refine ⟨digs (c0 :: u0), (c0 :: u0).dropWhile digB, tw _, by rw [e]; simp, ⟨D', hD'⟩, rfl, fun t ht => ?_⟩
      unfold numJ
      have e2 : readL (digs (c0 :: u0) ++ t) = (n, k, 0) := by
        unfold readL
        have hx2 := hx t ht
        rw [List.nil_append] at hx2
        rw [hD'] at hx2 ⊢
        rw [List.cons_append, if_neg (by rw [hp]; decide)]
        exact hx2
      rw [e2]; rfl
theorem word_ext (l : List UInt8) (j : J) (m : Nat) (h : wordJ l = (j, m, 0)) : ∃ A R, l = A ++ R ∧ m = A.length ∧ (∃ c A', A = c :: A' ∧ blankB c = false ∧ l.head? = some c) ∧ ∀ t, wordJ (A ++ t) = (j, m, 0) := by
  have pre : ∀ w : List UInt8, Lib.hasPrefix l w = true → ∃ R, l = w ++ R := fun w hw => by
    unfold Lib.hasPrefix at hw
    obtain ⟨R, hR⟩ := List.isPrefixOf_iff_prefix.1 hw
    exact ⟨R, hR.symm⟩
  unfold wordJ at h
  unfold wordL at h
  by_cases h1 : Lib.hasPrefix l [116, 114, 117, 101] = true
  · rw [if_pos h1, if_pos (show ([116, 114, 117, 101] : List UInt8) = trueL from rfl)] at h
    simp only [Prod.mk.injEq, and_true] at h
    obtain ⟨rfl, rfl⟩ := h
    obtain ⟨R, rfl⟩ := pre _ h1
    exact ⟨_, R, rfl, rfl, ⟨116, _, rfl, by decide, rfl⟩, fun t => by simp [wordJ, wordL, Lib.hasPrefix, trueL]⟩
  · rw [if_neg h1] at h
    by_cases h2 : Lib.hasPrefix l [102, 97, 108, 115, 101] = true
    · rw [if_pos h2, if_neg (by decide), if_pos (show ([102, 97, 108, 115, 101] : List UInt8) = falseL from rfl)] at h
      simp only [Prod.mk.injEq, and_true] at h
      obtain ⟨rfl, rfl⟩ := h
      obtain ⟨R, rfl⟩ := pre _ h2
      exact ⟨_, R, rfl, rfl, ⟨102, _, rfl, by decide, rfl⟩, fun t => by simp [wordJ, wordL, Lib.hasPrefix, trueL, falseL]⟩
    · rw [if_neg h2] at h
      by_cases h3 : Lib.hasPrefix l [110, 117, 108, 108] = true
      · rw [if_pos h3, if_neg (by decide), if_neg (by decide), if_pos (show ([110, 117, 108, 108] : List UInt8) = nullL from rfl)] at h
        simp only [Prod.mk.injEq, and_true] at h
        obtain ⟨rfl, rfl⟩ := h
        obtain ⟨R, rfl⟩ := pre _ h3
        exact ⟨_, R, rfl, rfl, ⟨110, _, rfl, by decide, rfl⟩, fun t => by simp [wordJ, wordL, Lib.hasPrefix, trueL, falseL, nullL]⟩
      · rw [if_neg h3, if_neg (by decide), if_neg (by decide), if_neg (by decide)] at h
        split at h <;> simp [jerr] at h
theorem text_ext (l : List UInt8) (j : J) (m : Nat) (h : textJ l = (j, m, 0)) : ∃ A R, l = A ++ R ∧ m = A.length ∧ (∃ A', A = 34 :: A') ∧ ∀ t, textJ (A ++ t) = (j, m, 0) := by
  unfold textJ at h
  obtain ⟨key, q, x, hu⟩ : ∃ key q x, unqL l = (key, q, x) := ⟨_, _, _, rfl⟩
  rw [hu] at h
  simp only at h
  by_cases hx : x ≠ 0
  · rw [if_pos hx] at h; unfold jerr at h; simp only [Prod.mk.injEq] at h; exact absurd h.2.2 hx
  · rw [if_neg hx] at h
    have hx0 := Classical.not_not.1 hx
    subst hx0
    simp only [Prod.mk.injEq, and_true] at h
    obtain ⟨rfl, rfl⟩ := h
    obtain ⟨A, R, rfl, rfl, hA', hA⟩ := unq_ext l key q hu
    refine ⟨A, R, rfl, rfl, hA', fun t => ?_⟩
    unfold textJ
    rw [hA]; rfl
theorem dig_nb {c : UInt8} (h : c.toNat = 45 ∨ digB c = true) : blankB c = false := by
  unfold digB at h
  unfold blankB
  simp at h ⊢
  omega
/-- The kinds of values by their first byte. -/
theorem headJ_ext (li ob : List UInt8 → JR) (hli : ∀ l j m, li l = (j, m, 0) → ∃ A R, l = A ++ R ∧ m = A.length ∧ 2 ≤ A.length ∧ ∀ t, li (A ++ t) = (j, m, 0)) (hob : ∀ l j m, ob l = (j, m, 0) → ∃ A R, l = A ++ R ∧ m = A.length ∧ 2 ≤ A.length ∧ ∀ t, ob (A ++ t) = (j, m, 0)) : ExtR (headJ li ob) := by
  intro l j m h
  match l, h with
  | [], h => simp [headJ, jerr] at h
  | c :: u, h =>
    have hb : ∀ v : List UInt8, headJ li ob (c :: v) = if c.toNat = 34 then textJ (c :: v) else if c.toNat = 45 ∨ digB c = true then numJ (c :: v) else if c.toNat = 116 ∨ c.toNat = 102 ∨ c.toNat = 110 then wordJ (c :: v) else if c.toNat = 91 then li (c :: v) else if c.toNat = 123 then ob (c :: v) else jerr 5 := fun v => rfl
    rw [hb] at h
    have big : ∀ (f : List UInt8 → JR) (A R : List UInt8), c :: u = A ++ R → 2 ≤ A.length → ∃ A', A = c :: A' := fun f A R e h2 => by
      match A, e, h2 with
      | [], _, h2 => simp at h2
      | a :: A', e, _ => simp only [List.cons_append, List.cons.injEq] at e; exact ⟨A', by rw [e.1]⟩
    by_cases h1 : c.toNat = 34
    · rw [if_pos h1] at h
      obtain ⟨A, R, e, hm, ⟨A', rfl⟩, hA⟩ := text_ext _ j m h
      have hc : c = 34 := UInt8.toNat_inj.1 h1
      subst hc
      exact ⟨34 :: A', R, e, hm, ⟨34, A', rfl, by decide⟩, fun t _ => by rw [List.cons_append, hb, if_pos h1]; exact hA t⟩
    · rw [if_neg h1] at h
      by_cases h2 : c.toNat = 45 ∨ digB c = true
      · rw [if_pos h2] at h
        obtain ⟨A, R, e, hm, ⟨A', rfl⟩, hk, hA⟩ := num_ext _ j m c u rfl h2 h
        exact ⟨c :: A', R, e, hm, ⟨c, A', rfl, dig_nb h2⟩, fun t ht => by rw [List.cons_append, hb, if_neg h1, if_pos h2]; exact hA t (ht hk)⟩
      · rw [if_neg h2] at h
        by_cases h3 : c.toNat = 116 ∨ c.toNat = 102 ∨ c.toNat = 110
        · rw [if_pos h3] at h
          obtain ⟨A, R, e, hm, ⟨c', A', rfl, hcb, hh⟩, hA⟩ := word_ext _ j m h
          have hcc : c' = c := by simpa using hh.symm
          subst hcc
          exact ⟨c' :: A', R, e, hm, ⟨c', A', rfl, hcb⟩, fun t _ => by rw [List.cons_append, hb, if_neg h1, if_neg h2, if_pos h3]; exact hA t⟩
        · rw [if_neg h3] at h
          by_cases h4 : c.toNat = 91
          · rw [if_pos h4] at h
            obtain ⟨A, R, e, hm, hl, hA⟩ := hli _ j m h
            obtain ⟨A', rfl⟩ := big li A R e hl
            exact ⟨c :: A', R, e, hm, ⟨c, A', rfl, by unfold blankB; simp; omega⟩, fun t _ => by rw [List.cons_append, hb, if_neg h1, if_neg h2, if_neg h3, if_pos h4]; exact hA t⟩
          · rw [if_neg h4] at h
            by_cases h5 : c.toNat = 123
            · rw [if_pos h5] at h
              obtain ⟨A, R, e, hm, hl, hA⟩ := hob _ j m h
              obtain ⟨A', rfl⟩ := big ob A R e hl
              exact ⟨c :: A', R, e, hm, ⟨c, A', rfl, by unfold blankB; simp; omega⟩, fun t _ => by rw [List.cons_append, hb, if_neg h1, if_neg h2, if_neg h3, if_neg h4, if_pos h5]; exact hA t⟩
            · rw [if_neg h5] at h
              simp [jerr] at h
theorem listJ_ext {rd : List UInt8 → JR} (h : ExtR rd) (l : List UInt8) (j : J) (m : Nat) (e : listJ rd l = (j, m, 0)) : ∃ A R, l = A ++ R ∧ m = A.length ∧ 2 ≤ A.length ∧ ∀ t, listJ rd (A ++ t) = (j, m, 0) := by
  obtain ⟨h1, h2⟩ := listJ_is rd l
  obtain ⟨st, N, x, hp⟩ : ∃ st N x, piecesP (stepL rd) 93 l [] = (st, N, x) := ⟨_, _, _, rfl⟩
  rw [hp] at h1 h2
  simp only at h1 h2
  by_cases hx : x = 0
  · subst hx
    rw [h1 rfl] at e
    simp only [Prod.mk.injEq, and_true] at e
    obtain ⟨rfl, rfl⟩ := e
    obtain ⟨A, R, rfl, rfl, h2l, hA⟩ := piecesP_ext (stepL rd) 93 (by decide) (fun c hc => ⟨by unfold digB; simp; omega, by unfold blankB; simp; omega⟩) (fun l st s' m e => stepL_ext h l st s' m e) l [] st N hp
    refine ⟨A, R, rfl, rfl, h2l, fun t => ?_⟩
    have := (listJ_is rd (A ++ t)).1 (by rw [hA])
    rw [this, hA]
  · rw [h2 hx] at e
    unfold jerr at e
    simp only [Prod.mk.injEq] at e
    exact absurd e.2.2 hx
theorem objJ_ext {rd : List UInt8 → JR} (h : ExtR rd) (l : List UInt8) (j : J) (m : Nat) (e : objJ rd l = (j, m, 0)) : ∃ A R, l = A ++ R ∧ m = A.length ∧ 2 ≤ A.length ∧ ∀ t, objJ rd (A ++ t) = (j, m, 0) := by
  obtain ⟨h1, h2⟩ := objJ_is rd l
  obtain ⟨st, N, x, hp⟩ : ∃ st N x, piecesP (stepO rd) 125 l ([], []) = (st, N, x) := ⟨_, _, _, rfl⟩
  rw [hp] at h1 h2
  simp only at h1 h2
  by_cases hx : x = 0
  · subst hx
    rw [h1 rfl] at e
    simp only [Prod.mk.injEq, and_true] at e
    obtain ⟨rfl, rfl⟩ := e
    obtain ⟨A, R, rfl, rfl, h2l, hA⟩ := piecesP_ext (stepO rd) 125 (by decide) (fun c hc => ⟨by unfold digB; simp; omega, by unfold blankB; simp; omega⟩) (fun l st s' m e => stepO_ext h l st s' m e) l ([], []) st N hp
    refine ⟨A, R, rfl, rfl, h2l, fun t => ?_⟩
    have := (objJ_is rd (A ++ t)).1 (by rw [hA])
    rw [this, hA]
  · rw [h2 hx] at e
    unfold jerr at e
    simp only [Prod.mk.injEq] at e
    exact absurd e.2.2 hx
theorem valueJ_ext : ∀ d, ExtR (valueJ d) := by
  intro d
  induction d with
  | zero => exact headJ_ext _ _ (fun l j m h => by simp [jerr] at h) (fun l j m h => by simp [jerr] at h)
  | succ d ih => exact headJ_ext _ _ (fun l j m h => listJ_ext ih l j m h) (fun l j m h => objJ_ext ih l j m h)
end Go.Proofs.YtljkeladdplhlaaDoor
