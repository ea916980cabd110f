/-
  What is read is valid: of package json, on plain functions.
-/
import Derived.Test.YtljkeladdplhlaaDoorChe
import Derived.Test.YtljkeladdplhlaaDoorExv
namespace Go.Proofs.YtljkeladdplhlaaDoor
open Go.RowKit

theorem loopP_inv {σ : Type} (step : List UInt8 → σ → σ × Nat × Nat) (endc M : Nat) (φ : σ → Prop) (h : ∀ l st, l.length ≤ M → (step l st).2.2 = 0 → φ st → φ (step l st).1) :
    ∀ (k : Nat) (l : List UInt8) (st : σ) (n : Nat), l.length ≤ M → (loopP step endc k l st n).2.2 = 0 → φ st → φ (loopP step endc k l st n).1 := by
  intro k
  induction k with
  | zero => intro l st n _ e; exact absurd e (by simp [loopP])
  | succ k ih =>
    intro l st n hl
    unfold loopP
    by_cases h0 : (step l st).2.2 ≠ 0
    · rw [if_pos h0]; intro e; exact absurd e h0
    · rw [if_neg h0]
      have h1 := h l st hl (Classical.not_not.1 h0)
      generalize hr : (l.drop (step l st).2.1).drop (spaceL (l.drop (step l st).2.1)) = rest
      have hrl : rest.length ≤ M := by rw [← hr, List.length_drop, List.length_drop]; omega
      clear hr
      cases rest with
      | nil => intro e; exact absurd e (by simp)
      | cons c t =>
        simp only
        by_cases h2 : c.toNat = 44
        · rw [if_pos h2]
          intro e hφ
          exact ih _ _ _ (by rw [List.length_drop]; simp at hrl; omega) e (h1 hφ)
        · rw [if_neg h2]
          by_cases h3 : c.toNat = endc
          · rw [if_pos h3]; intro _ hφ; exact h1 hφ
          · rw [if_neg h3]; intro e; exact absurd e (by simp)
theorem piecesP_inv {σ : Type} (step : List UInt8 → σ → σ × Nat × Nat) (endc M : Nat) (φ : σ → Prop) (h : ∀ l st, l.length ≤ M → (step l st).2.2 = 0 → φ st → φ (step l st).1) (l : List UInt8) (st : σ) (hl : l.length ≤ M) (e : (piecesP step endc l st).2.2 = 0) (hφ : φ st) : φ (piecesP step endc l st).1 := by
  unfold piecesP at e ⊢
  split
  · exact hφ
  · rename_i hne
    rw [if_neg hne] at e
    exact loopP_inv step endc M φ h _ _ _ _ (by rw [List.length_drop, List.length_drop]; omega) e hφ

/-- A value that is valid, no deeper than d, and not too long. -/
def OKJ (d : Nat) (j : J) : Prop := depthJ j ≤ d ∧ allC j = 0 ∧ SmJ j
theorem depthL_le {d : Nat} : ∀ {l : List J}, (∀ j, j ∈ l → OKJ d j) → depthL l ≤ d ∧ allCL l = 0 ∧ SmL l
  | [], _ => ⟨Nat.zero_le _, rfl, by unfold SmL; trivial⟩
  | j :: t, h => by
    obtain ⟨h1, h2, h3⟩ := depthL_le (fun j hj => h j (by simp [hj])) (l := t)
    obtain ⟨k1, k2, k3⟩ := h j (by simp)
    refine ⟨by simp only [depthL]; omega, by rw [allCL, k2, if_neg (by decide), h2], by unfold SmL; exact ⟨k3, h3⟩⟩
theorem plain_ok (d : Nat) (k n : Int) (t : List UInt8) (h1 : aloneC (.mk k n t [] []) = 0) (h2 : t.length ≤ 1000000) (h3 : k ≠ 5) (h4 : k ≠ 6) : OKJ d (.mk k n t [] []) := by
  refine ⟨?_, ?_, ?_⟩
  · rw [depthJ, if_neg (by omega)]; exact Nat.zero_le _
  · rw [allC, h1, if_neg (by decide), allCL]
  · unfold SmJ SmL
    exact ⟨h2, Nat.zero_le _, fun k hk => by simp at hk, trivial⟩
theorem validL_pts {l : List UInt8} (h : Pts l) : validL l = true := Pts.valid h _ (Nat.le_refl _)
theorem text_ok (d : Nat) (l : List UInt8) (hl : l.length ≤ 100000) (h : (textJ l).2.2 = 0) : OKJ d (textJ l).1 := by
  unfold textJ at h ⊢
  by_cases h0 : (unqL l).2.2 ≠ 0
  · rw [if_pos h0] at h; exact absurd h h0
  · rw [if_neg h0] at h ⊢
    have wl := wellL l (Classical.not_not.1 h0)
    have hw := unqL_w l
    have hle := wl.le
    refine plain_ok d 4 0 _ ?_ (by omega) (by decide) (by decide)
    rw [aloneC, if_neg (by omega), if_neg (by simp [numB, fldB]), if_neg (by simp [validL_pts wl.pts])]
    simp [keysC]
theorem capN_nn : ∀ (l : List UInt8), (∀ c, c ∈ l → digB c = true) → ∀ n : Int, 0 ≤ n → n ≤ 90071992547409919 → 0 ≤ l.foldl capS n ∧ l.foldl capS n ≤ 90071992547409919
  | [], _, _, h0, h1 => ⟨h0, h1⟩
  | c :: t, h, n, h0, h1 => by
    obtain ⟨k0, k1⟩ := capS_range n c h0 h1 (h c (by simp))
    exact capN_nn t (fun c hc => h c (by simp [hc])) (capS n c) k0 k1
theorem takeWhile_all {p : UInt8 → Bool} : ∀ (l : List UInt8) (c : UInt8), c ∈ l.takeWhile p → p c = true
  | [], c, h => by simp at h
  | a :: t, c, h => by
    rw [List.takeWhile_cons] at h
    by_cases ha : p a = true
    · rw [if_pos ha] at h
      rcases List.mem_cons.1 h with h | h
      · rw [h]; exact ha
      · exact takeWhile_all t c h
    · rw [if_neg ha] at h; simp at h
theorem digs_nn (l : List UInt8) : (0 : Int) ≤ capN (digs l) := (capN_nn (digs l) (fun c hc => takeWhile_all l c hc) 0 (by omega) (by omega)).1
theorem readS_rng (st : Nat) (l : List UInt8) (h : (readS st l).2.2 = 0) : -mostN ≤ (readS st l).1 ∧ (readS st l).1 ≤ mostN := by
  unfold readS at h ⊢
  unfold mostN
  split at h
  · simp at h
  · split at h
    · simp at h
    · split at h
      · simp at h
      · split at h
        · simp at h
        · rename_i h1 h2 h3 h4
          rw [if_neg h1, if_neg h2, if_neg h3, if_neg h4]
          simp only
          have hc : (0 : Int) ≤ capN (digs (l.drop st)) := digs_nn _
          split <;> omega
theorem num_ok (d : Nat) (l : List UInt8) (h : (numJ l).2.2 = 0) : OKJ d (numJ l).1 := by
  unfold numJ at h ⊢
  by_cases h0 : (readL l).2.2 ≠ 0
  · rw [if_pos h0] at h; exact absurd h h0
  · rw [if_neg h0] at h ⊢
    have hr : -mostN ≤ (readL l).1 ∧ (readL l).1 ≤ mostN := by
      have e := Classical.not_not.1 h0
      unfold readL at e ⊢
      exact readS_rng _ l e
    refine plain_ok d 3 _ [] ?_ (Nat.zero_le _) (by decide) (by decide)
    rw [aloneC, if_neg (by omega), if_neg (by simp [numB, fldB, hr.1, hr.2]), if_neg (by simp [validL, validF])]
    simp [keysC]
theorem word_ok (d : Nat) (l : List UInt8) (h : (wordJ l).2.2 = 0) : OKJ d (wordJ l).1 := by
  unfold wordJ at h ⊢
  have a : ∀ k n : Int, (k = 2 ∧ (n = 1 ∨ n = 0)) ∨ (k = 1 ∧ n = 0) → OKJ d (.mk k n [] [] []) := fun k n hkn => by
    refine plain_ok d k n [] ?_ (Nat.zero_le _) (by omega) (by omega)
    rcases hkn with ⟨rfl, rfl | rfl⟩ | ⟨rfl, rfl⟩ <;> decide +kernel
  split
  · exact a _ _ (.inl ⟨rfl, .inl rfl⟩)
  · split
    · exact a _ _ (.inl ⟨rfl, .inr rfl⟩)
    · split
      · exact a _ _ (.inr ⟨rfl, rfl⟩)
      · rename_i h1 h2 h3
        rw [if_neg h1, if_neg h2, if_neg h3] at h
        split at h <;> simp [jerr] at h
theorem list_ok (d : Nat) (rd : List UInt8 → JR) (hr : ∀ l, l.length ≤ 100000 → (rd l).2.2 = 0 → OKJ d (rd l).1) (l : List UInt8) (hl : l.length ≤ 100000) (h : (listJ rd l).2.2 = 0) : OKJ (d + 1) (listJ rd l).1 := by
  obtain ⟨h1, h2⟩ := listJ_is rd l
  by_cases e : (piecesP (stepL rd) 93 l []).2.2 = 0
  · have hi := piecesP_inv (stepL rd) 93 100000 (fun st => ∀ j, j ∈ st → OKJ d j) (fun l st hl he hφ j hj => by
      have he' : (rd l).2.2 = 0 := he
      rcases List.mem_append.1 (show j ∈ st ++ [(rd l).1] from hj) with hj | hj
      · exact hφ j hj
      · rw [List.mem_singleton.1 hj]; exact hr l hl he') l [] hl e (fun j hj => by simp at hj)
    rw [h1 e]
    obtain ⟨d1, d2, d3⟩ := depthL_le hi
    refine ⟨by simp only; rw [depthJ, if_pos (.inl rfl)]; omega, ?_, by simp only; unfold SmJ; exact ⟨Nat.zero_le _, Nat.zero_le _, fun k hk => by simp at hk, d3⟩⟩
    simp only
    have ha : aloneC (.mk 5 0 [] [] (piecesP (stepL rd) 93 l []).1) = 0 := by
      rw [aloneC, if_neg (by omega), if_neg (by simp [numB, fldB]), if_neg (by simp [validL, validF])]
      simp [keysC]
    rw [allC, ha, if_neg (by decide), d2]
  · rw [h2 e] at h
    exact absurd h e
theorem obj_ok (d : Nat) (rd : List UInt8 → JR) (hr : ∀ l, l.length ≤ 100000 → (rd l).2.2 = 0 → OKJ d (rd l).1) (hn : ∀ l, nodesJ (rd l).1 ≤ (rd l).2.1 + 1) (hle : ∀ l, (rd l).2.1 ≤ l.length) (l : List UInt8) (hl : l.length ≤ 100000) (h : (objJ rd l).2.2 = 0) : OKJ (d + 1) (objJ rd l).1 := by
  obtain ⟨h1, h2⟩ := objJ_is rd l
  have hnn := objJ_nodes rd hn l
  by_cases e : (piecesP (stepO rd) 125 l ([], [])).2.2 = 0
  · have hi := piecesP_inv (stepO rd) 125 100000 (fun st => (st.1.length = st.2.length ∧ st.1.Nodup ∧ st.1.all validL = true ∧ (∀ k, k ∈ st.1 → k.length ≤ 1000000)) ∧ ∀ j, j ∈ st.2 → OKJ d j) (fun l st hl he hφ => by
      unfold stepO at he ⊢
      by_cases c1 : (unqL l).2.2 ≠ 0
      · rw [if_pos c1] at he; exact absurd he c1
      · rw [if_neg c1] at he ⊢
        by_cases c2 : (unqL l).1 ∈ st.1
        · rw [if_pos c2] at he; simp at he
        · rw [if_neg c2] at he ⊢
          by_cases c3 : (colonL (l.drop (unqL l).2.1)).2 ≠ 0
          · rw [if_pos c3] at he; exact absurd he c3
          · rw [if_neg c3] at he ⊢
            have wl := wellL l (Classical.not_not.1 c1)
            have hw := unqL_w l
            have hle := wl.le
            obtain ⟨⟨f1, f2, f3, f4⟩, f5⟩ := hφ
            refine ⟨⟨by simp [f1], ?_, by simp [f3, validL_pts wl.pts], fun k hk => ?_⟩, fun j hj => ?_⟩
            · rw [List.nodup_append]
              exact ⟨f2, by simp, fun a ha b hb => by rw [List.mem_singleton.1 hb]; exact fun e => c2 (e ▸ ha)⟩
            · rcases List.mem_append.1 hk with hk | hk
              · exact f4 k hk
              · rw [List.mem_singleton.1 hk]; omega
            · rcases List.mem_append.1 hj with hj | hj
              · exact f5 j hj
              · rw [List.mem_singleton.1 hj]
                exact hr _ (by rw [List.length_drop]; omega) he) l ([], []) hl e ⟨⟨rfl, List.nodup_nil, rfl, fun k hk => by simp at hk⟩, fun j hj => by simp at hj⟩
    have hbl := objJ_le rd hle l
    rw [h1 e] at hnn hbl ⊢
    obtain ⟨⟨f1, f2, f3, f4⟩, f5⟩ := hi
    obtain ⟨d1, d2, d3⟩ := depthL_le f5
    have hnl := nodesL_len (piecesP (stepO rd) 125 l ([], [])).1.2
    simp only at hnn hbl ⊢
    rw [nodesJ] at hnn
    have hlen : 1 ≤ l.length := by
      match l, e with
      | [], e => simp [piecesP, loopP, stepO, unqL] at e
      | _ :: _, _ => simp
    have := hbl hlen
    refine ⟨by rw [depthJ, if_pos (.inr rfl)]; omega, ?_, by unfold SmJ; exact ⟨Nat.zero_le _, by omega, f4, d3⟩⟩
    have ha : aloneC (.mk 6 0 [] (piecesP (stepO rd) 125 l ([], [])).1.1 (piecesP (stepO rd) 125 l ([], [])).1.2) = 0 := by
      rw [aloneC, if_neg (by omega), if_neg (by simp [numB, fldB, f1]), if_neg (by simp [validL, validF])]
      unfold keysC
      rw [if_pos f3, if_pos f2]
    rw [allC, ha, if_neg (by decide), d2]
  · rw [h2 e] at h
    exact absurd h e
theorem head_ok (d : Nat) (li ob : List UInt8 → JR) (hli : ∀ l, l.length ≤ 100000 → (li l).2.2 = 0 → OKJ d (li l).1) (hob : ∀ l, l.length ≤ 100000 → (ob l).2.2 = 0 → OKJ d (ob l).1) (l : List UInt8) (hl : l.length ≤ 100000) (h : (headJ li ob l).2.2 = 0) : OKJ d (headJ li ob l).1 := by
  match l, hl, h with
  | [], _, h => simp [headJ, jerr] at h
  | c :: t, hl, h =>
    simp only [headJ] at h ⊢
    split
    · rename_i h1; rw [if_pos h1] at h; exact text_ok d _ hl h
    · rename_i h1; rw [if_neg h1] at h
      split
      · rename_i h2; rw [if_pos h2] at h; exact num_ok d _ h
      · rename_i h2; rw [if_neg h2] at h
        split
        · rename_i h3; rw [if_pos h3] at h; exact word_ok d _ h
        · rename_i h3; rw [if_neg h3] at h
          split
          · rename_i h4; rw [if_pos h4] at h; exact hli _ hl h
          · rename_i h4; rw [if_neg h4] at h
            split
            · rename_i h5; rw [if_pos h5] at h; exact hob _ hl h
            · rename_i h5; rw [if_neg h5] at h; simp [jerr] at h
theorem value_ok : ∀ (d : Nat) (l : List UInt8), l.length ≤ 100000 → (valueJ d l).2.2 = 0 → OKJ d (valueJ d l).1 := by
  intro d
  induction d with
  | zero => intro l hl h; exact head_ok 0 _ _ (fun l _ h => by simp [jerr] at h) (fun l _ h => by simp [jerr] at h) l hl h
  | succ d ih => intro l hl h; exact head_ok (d + 1) _ _ (list_ok d _ ih) (obj_ok d _ ih (valueJ_nodes d) (valueJ_le d)) l hl h
end Go.Proofs.YtljkeladdplhlaaDoor
