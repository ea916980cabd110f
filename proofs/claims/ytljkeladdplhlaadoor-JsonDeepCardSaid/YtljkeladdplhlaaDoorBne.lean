/-
  How far a piece of JSON may go, of package json.
-/
import Derived.Test.YtljkeladdplhlaaDoorFrp
import Derived.Test.YtljkeladdplhlaaDoorJpu
import Derived.Test.YtljkeladdplhlaaDoorNum
import Derived.Test.YtljkeladdplhlaaDoorRdr
namespace Go.Proofs.YtljkeladdplhlaaDoor
open Go.RowKit

theorem unqL_le (l : List UInt8) : (unqL l).2.1 ≤ l.length := by
  by_cases h : (unqL l).2.2 = 0
  · exact (wellL l h).le
  · rw [(unqL_err l h).2]; exact Nat.zero_le _
theorem digs_le (l : List UInt8) : (digs l).length ≤ l.length := (List.takeWhile_prefix digB).length_le
theorem readS_le (st : Nat) (l : List UInt8) (h : st ≤ l.length) : (readS st l).2.1 ≤ l.length := by
  unfold readS
  have hd := digs_le (l.drop st)
  rw [List.length_drop] at hd
  split
  · exact Nat.zero_le _
  · split
    · exact Nat.zero_le _
    · split
      · exact Nat.zero_le _
      · split
        · exact Nat.zero_le _
        · simp only; omega
theorem readL_le (l : List UInt8) : (readL l).2.1 ≤ l.length := by
  unfold readL
  split
  · rename_i h
    refine readS_le 1 l ?_
    match l, h with
    | [], h => exact absurd h (by decide)
    | _ :: _, _ => simp
  · exact readS_le 0 l (Nat.zero_le _)
theorem textJ_le (l : List UInt8) : (textJ l).2.1 ≤ l.length := by
  unfold textJ
  split
  · exact Nat.zero_le _
  · exact unqL_le l
theorem numJ_le (l : List UInt8) : (numJ l).2.1 ≤ l.length := by
  unfold numJ
  split
  · exact Nat.zero_le _
  · exact readL_le l
theorem pre_le (l p : List UInt8) (h : Lib.hasPrefix l p = true) : p.length ≤ l.length := by
  unfold Lib.hasPrefix at h
  exact (List.isPrefixOf_iff_prefix.1 h).length_le
theorem wordL_le (l : List UInt8) : (wordL l).length ≤ l.length := by
  unfold wordL
  split
  · rename_i h; exact pre_le l _ h
  · split
    · rename_i h; exact pre_le l _ h
    · split
      · rename_i h; exact pre_le l _ h
      · exact Nat.zero_le _
theorem wordJ_le (l : List UInt8) : (wordJ l).2.1 ≤ l.length := by
  have h := wordL_le l
  unfold wordJ
  split
  · rename_i e; rw [e] at h; exact h
  · split
    · rename_i e; rw [e] at h; exact h
    · split
      · rename_i e; rw [e] at h; exact h
      · split
        · exact Nat.zero_le _
        · exact Nat.zero_le _
end Go.Proofs.YtljkeladdplhlaaDoor
namespace Go.Proofs.YtljkeladdplhlaaDoor
open Go.RowKit

theorem loopL_le (rd : List UInt8 → JR) (h : ∀ l, (rd l).2.1 ≤ l.length) : ∀ (k : Nat) (l : List UInt8) (acc : List J) (n : Nat), (loopL rd k l acc n).2.1 ≤ n + l.length := by
  intro k
  induction k with
  | zero => intro l acc n; exact Nat.zero_le _
  | succ k ih =>
    intro l acc n
    unfold loopL
    split
    · exact Nat.zero_le _
    · have h1 := h l
      have h2 := spaceL_le (l.drop (rd l).2.1)
      rw [List.length_drop] at h2
      split
      · exact Nat.zero_le _
      · rename_i c t heq
        have h3 := congrArg List.length heq
        rw [List.length_drop, List.length_drop, List.length_cons] at h3
        split
        · have h4 := ih (t.drop (spaceL t)) (acc ++ [(rd l).1]) (n + (rd l).2.1 + spaceL (l.drop (rd l).2.1) + 1 + spaceL t)
          have h5 := spaceL_le t
          rw [List.length_drop] at h4
          omega
        · split
          · simp only; omega
          · exact Nat.zero_le _
theorem colonL_le (l : List UInt8) : (colonL l).1 ≤ l.length := by
  unfold colonL
  have h2 := spaceL_le l
  split
  · exact Nat.zero_le _
  · rename_i c t heq
    have h3 := congrArg List.length heq
    rw [List.length_drop, List.length_cons] at h3
    have h5 := spaceL_le t
    split
    · simp only; omega
    · exact Nat.zero_le _
theorem loopO_le (rd : List UInt8 → JR) (h : ∀ l, (rd l).2.1 ≤ l.length) : ∀ (k : Nat) (l : List UInt8) (keys : List (List UInt8)) (acc : List J) (n : Nat), (loopO rd k l keys acc n).2.2.1 ≤ n + l.length := by
  intro k
  induction k with
  | zero => intro l keys acc n; exact Nat.zero_le _
  | succ k ih =>
    intro l keys acc n
    unfold loopO
    split
    · exact Nat.zero_le _
    · split
      · exact Nat.zero_le _
      · split
        · exact Nat.zero_le _
        · have h0 := unqL_le l
          have h1 := colonL_le (l.drop (unqL l).2.1)
          rw [List.length_drop] at h1
          generalize (colonL (l.drop (unqL l).2.1)).1 = m at *
          have h2 := h (l.drop ((unqL l).2.1 + m))
          have hl : (l.drop ((unqL l).2.1 + m)).length = l.length - ((unqL l).2.1 + m) := List.length_drop
          simp only
          generalize l.drop ((unqL l).2.1 + m) = u at *
          have h3 := spaceL_le (u.drop (rd u).2.1)
          rw [List.length_drop] at h3
          split
          · exact Nat.zero_le _
          · split
            · exact Nat.zero_le _
            · rename_i c t heq
              have h4 := congrArg List.length heq
              rw [List.length_drop, List.length_drop, List.length_cons] at h4
              have h5 := spaceL_le t
              split
              · have h6 := ih (t.drop (spaceL t)) (keys ++ [(unqL l).1]) (acc ++ [(rd u).1]) (n + (unqL l).2.1 + m + (rd u).2.1 + spaceL (u.drop (rd u).2.1) + 1 + spaceL t)
                rw [List.length_drop] at h6
                omega
              · split
                · simp only; omega
                · exact Nat.zero_le _
theorem listJ_le (rd : List UInt8 → JR) (h : ∀ l, (rd l).2.1 ≤ l.length) (l : List UInt8) (h1 : 1 ≤ l.length) : (listJ rd l).2.1 ≤ l.length := by
  have h2 := spaceL_le (l.drop 1)
  rw [List.length_drop] at h2
  unfold listJ
  simp only
  have h3 := loopL_le rd h (l.length + 1) ((l.drop 1).drop (spaceL (l.drop 1))) [] (1 + spaceL (l.drop 1))
  rw [List.length_drop, List.length_drop] at h3
  split
  · rename_i e
    have hne : (l.drop 1).drop (spaceL (l.drop 1)) ≠ [] := fun e2 => by rw [e2] at e; exact absurd e (by decide)
    have := List.length_pos_iff.2 hne
    rw [List.length_drop, List.length_drop] at this
    simp only; omega
  · split
    · exact Nat.zero_le _
    · simp only; omega
theorem objJ_le (rd : List UInt8 → JR) (h : ∀ l, (rd l).2.1 ≤ l.length) (l : List UInt8) (h1 : 1 ≤ l.length) : (objJ rd l).2.1 ≤ l.length := by
  have h2 := spaceL_le (l.drop 1)
  rw [List.length_drop] at h2
  unfold objJ
  simp only
  have h3 := loopO_le rd h (l.length + 1) ((l.drop 1).drop (spaceL (l.drop 1))) [] [] (1 + spaceL (l.drop 1))
  rw [List.length_drop, List.length_drop] at h3
  split
  · rename_i e
    have hne : (l.drop 1).drop (spaceL (l.drop 1)) ≠ [] := fun e2 => by rw [e2] at e; exact absurd e (by decide)
    have := List.length_pos_iff.2 hne
    rw [List.length_drop, List.length_drop] at this
    simp only; omega
  · split
    · exact Nat.zero_le _
    · simp only; omega
theorem headJ_le (li ob : List UInt8 → JR) (hl : ∀ l, 1 ≤ l.length → (li l).2.1 ≤ l.length) (ho : ∀ l, 1 ≤ l.length → (ob l).2.1 ≤ l.length) (l : List UInt8) : (headJ li ob l).2.1 ≤ l.length := by
  match l with
  | [] => exact Nat.zero_le _
  | c :: t =>
    simp only [headJ]
    split
    · exact textJ_le _
    · split
      · exact numJ_le _
      · split
        · exact wordJ_le _
        · split
          · exact hl _ (by simp)
          · split
            · exact ho _ (by simp)
            · exact Nat.zero_le _
theorem valueJ_le : ∀ (d : Nat) (l : List UInt8), (valueJ d l).2.1 ≤ l.length := by
  intro d
  induction d with
  | zero => intro l; exact headJ_le _ _ (fun _ _ => Nat.zero_le _) (fun _ _ => Nat.zero_le _) l
  | succ d ih => intro l; exact headJ_le _ _ (fun l h => listJ_le _ ih l h) (fun l h => objJ_le _ ih l h) l
end Go.Proofs.YtljkeladdplhlaaDoor
