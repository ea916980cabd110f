/-
  Blanks before and after what is parsed: of package json, on plain functions.
-/
import Derived.Test.YtljkeladdplhlaaDoorOke
namespace Go.Proofs.YtljkeladdplhlaaDoor
open Go.RowKit

def Blanks (l : List UInt8) : Prop := ∀ c, c ∈ l → blankB c = true
theorem Blanks.nd {l r : List UInt8} (h : Blanks l) (hr : ND r) : ND (l ++ r) := fun c u e => by
  cases l with
  | nil => exact hr c u e
  | cons a t =>
    obtain ⟨rfl, _⟩ := List.cons.inj e
    exact blank_nd (h a (by simp))
theorem Blanks.app {a b : List UInt8} (ha : Blanks a) (hb : Blanks b) : Blanks (a ++ b) := fun c hc => (List.mem_append.1 hc).elim (ha c) (hb c)
theorem nb_app {A t : List UInt8} (h : ∃ c A', A = c :: A' ∧ blankB c = false) : NB (A ++ t) := fun c u e => by
  obtain ⟨c', A', rfl, hb⟩ := h
  obtain ⟨rfl, _⟩ := List.cons.inj e
  exact hb
theorem nb_nil : NB [] := fun c u e => by cases e
theorem nd_nil : ND [] := fun c u e => by cases e
theorem sp_all {E : List UInt8} (h : Blanks E) : spaceL E = E.length := by
  have := sp_app E [] h nb_nil
  simpa using this

/-- A text is parsed: blanks, the value's bytes, blanks. -/
structure Whole (l : List UInt8) (j : J) (B A E : List UInt8) : Prop where
  is : l = B ++ (A ++ E)
  b : Blanks B
  e : Blanks E
  head : ∃ c A', A = c :: A' ∧ blankB c = false
  read : ∀ t, ND t → valueJ 8 (A ++ t) = (j, A.length, 0)
  nodes : nodesJ j ≤ 400
theorem parse_whole {l : List UInt8} {j : J} (h : parseJ l = (j, 0)) : ∃ B A E, Whole l j B A E := by
  obtain ⟨B, T, e1, e2, e3, hB, hT⟩ := sp_split l
  unfold parseJ at h
  rw [e3] at h
  by_cases h0 : (valueJ 8 T).2.2 ≠ 0
  · rw [if_pos h0] at h; exact absurd (congrArg Prod.snd h) h0
  · rw [if_neg h0] at h
    have hx := valueJ_ext 8 T (valueJ 8 T).1 (valueJ 8 T).2.1 (by rw [← Classical.not_not.1 h0])
    obtain ⟨A, R, k1, k2, k3, k4⟩ := hx
    by_cases h1 : spaceL (T.drop (valueJ 8 T).2.1) < (T.drop (valueJ 8 T).2.1).length
    · rw [if_pos h1] at h; exact absurd (congrArg Prod.snd h) (by simp)
    · rw [if_neg h1] at h
      by_cases h2 : 400 < nodesJ (valueJ 8 T).1
      · rw [if_pos h2] at h; exact absurd (congrArg Prod.snd h) (by simp)
      · rw [if_neg h2] at h
        have hj : (valueJ 8 T).1 = j := congrArg Prod.fst h
        have hR : T.drop (valueJ 8 T).2.1 = R := by rw [k2]; conv => lhs; rw [k1]
                                                    exact drop_app A R
        rw [hR] at h1
        obtain ⟨B2, T2, f1, f2, f3, f4, f5⟩ := sp_split R
        have hT2 : T2 = [] := by
          have hl : R.length = B2.length + T2.length := by conv => lhs; rw [f1]
                                                           simp
          exact List.length_eq_zero_iff.1 (by omega)
        subst hT2
        rw [List.append_nil] at f1
        subst f1
        rw [hj] at k4 h2
        rw [k2] at k4
        exact ⟨B, A, R, by rw [e1, k1], hB, f4, k3, fun t ht => k4 t (fun _ => ht), by omega⟩
theorem Whole.to {l : List UInt8} {j : J} {B A E : List UInt8} (h : Whole l j B A E) : parseJ l = (j, 0) := by
  have h1 : spaceL l = B.length := by rw [h.is]; exact sp_app B _ h.b (nb_app h.head)
  have h2 : l.drop (spaceL l) = A ++ E := by rw [h1, h.is]; exact drop_app _ _
  have h3 := h.read E (by have := h.e.nd nd_nil; simpa using this)
  unfold parseJ
  rw [h2, h3]
  simp only
  rw [drop_app, sp_all h.e]
  have := h.nodes
  rw [if_neg (by simp), if_neg (by omega), if_neg (by omega)]
theorem Whole.wide {l : List UInt8} {j : J} {B A E : List UInt8} (h : Whole l j B A E) {p q : List UInt8} (hp : Blanks p) (hq : Blanks q) : Whole (p ++ (l ++ q)) j (p ++ B) A (E ++ q) :=
  ⟨by rw [h.is]; simp, hp.app h.b, h.e.app hq, h.head, h.read, h.nodes⟩
theorem parse_wide {l : List UInt8} {j : J} (h : parseJ l = (j, 0)) {p q : List UInt8} (hp : Blanks p) (hq : Blanks q) : parseJ (p ++ (l ++ q)) = (j, 0) := by
  obtain ⟨B, A, E, hw⟩ := parse_whole h
  exact (hw.wide hp hq).to
theorem blank32 : blankB 32 = true := by decide
theorem parse_blank {l : List UInt8} {j : J} (h : parseJ l = (j, 0)) {c : UInt8} (hc : blankB c = true) : parseJ (l ++ [32, c]) = (j, 0) := by
  have := parse_wide h (p := []) (q := [32, c]) (fun c hc => by simp at hc) (fun x hx => by
    rcases List.mem_cons.1 hx with rfl | hx
    · exact blank32
    · rw [List.mem_singleton.1 hx]; exact hc)
  simpa using this
theorem parse_more {l : List UInt8} {j : J} (h : parseJ l = (j, 0)) {c : UInt8} (hc : blankB c = false) : (parseJ (l ++ [32, c])).2 = 5 := by
  obtain ⟨B, A, E, h⟩ := parse_whole h
  have hE : Blanks (E ++ [32]) := h.e.app (fun x hx => by rw [List.mem_singleton.1 hx]; exact blank32)
  have h0 : l ++ [32, c] = B ++ (A ++ ((E ++ [32]) ++ [c])) := by rw [h.is]; simp
  have h1 : spaceL (l ++ [32, c]) = B.length := by rw [h0]; exact sp_app B _ h.b (nb_app h.head)
  have h2 : (l ++ [32, c]).drop (spaceL (l ++ [32, c])) = A ++ ((E ++ [32]) ++ [c]) := by rw [h1, h0]; exact drop_app _ _
  have h3 := h.read ((E ++ [32]) ++ [c]) (by
    rw [List.append_assoc]
    exact h.e.nd (fun x u e => by obtain ⟨rfl, _⟩ := List.cons.inj e; decide))
  have h4 : spaceL ((E ++ [32]) ++ [c]) = (E ++ [32]).length := sp_app _ _ hE (fun x u e => by obtain ⟨rfl, _⟩ := List.cons.inj e; exact hc)
  unfold parseJ
  rw [h2, h3]
  simp only
  rw [drop_app, h4, if_neg (by simp), if_pos (by simp)]
theorem parse_valid {l : List UInt8} {j : J} (hl : l.length ≤ 100000) (h : parseJ l = (j, 0)) : checkC j = 0 ∧ SmJ j ∧ nodesJ j ≤ 400 := by
  obtain ⟨B, A, E, hw⟩ := parse_whole h
  have h3 := hw.read [] nd_nil
  have hlA : (A ++ []).length ≤ 100000 := by
    have := congrArg List.length hw.is
    simp at this ⊢; omega
  obtain ⟨k1, k2, k3⟩ := value_ok 8 (A ++ []) hlA (by rw [h3])
  rw [h3] at k1 k2 k3
  simp only at k1 k2 k3
  have := hw.nodes
  exact ⟨by unfold checkC; rw [if_neg (by omega), if_neg (by omega), k2], k3, this⟩
theorem parse_zero {l : List UInt8} (h : (parseJ l).2 ≠ 0) : (parseJ l).1 = J.zero := by
  unfold parseJ at h ⊢
  split
  · rfl
  · rename_i h1; rw [if_neg h1] at h
    split
    · rfl
    · rename_i h2; rw [if_neg h2] at h
      split
      · rfl
      · rename_i h3; rw [if_neg h3] at h; exact absurd rfl h
end Go.Proofs.YtljkeladdplhlaaDoor
