/-
  Which logs are valid: reading them note by note, and the document's definition, are the same.
-/
import Derived.Test.YtfapilgmgjmfeaaGreatDoorRfb
namespace Go.Proofs.YtfapilgmgjmfeaaGreatDoor

def liveOf (l : List Nt) : Option (Act × Bool) := match l with
  | [] => none
  | f :: r => if f.kind = 3 ∧ endsB ((f :: r).getLast (by simp)).kind = false then some (f.act, ((f :: r).getLast (by simp)).kind == 4) else none
def mayB (l : List Nt) (n : Nt) : Bool := match liveOf l with
  | none => false
  | some (a, s) => decide (a = n.act) && (if n.kind = 4 then true else if n.kind = 5 ∨ n.kind = 7 ∨ n.kind = 6 then s else (n.kind == 8 && !s))
def oneB (p : List Nt) (n : Nt) : Bool :=
  if n.kind = 1 ∨ n.kind = 2 ∨ n.kind = 9 then n.txn == 0
  else if n.kind = 3 then (n.txn == queuedZ p + 1 && (decide (1 ≤ n.act.kind) && decide (n.act.kind ≤ 4)))
  else (decide (0 < n.txn) && mayB (ofL p n.txn) n)
def bareB (n : Nt) : Bool :=
  if n.kind = 1 then decide (n = ⟨n.kind, 0, Act.zero, n.code, []⟩)
  else if n.kind = 2 then decide (n = ⟨n.kind, 0, Act.zero, n.code, n.text⟩)
  else if n.kind = 9 then decide (n = ⟨n.kind, 0, Act.zero, 0, []⟩)
  else decide (n = ⟨n.kind, n.txn, n.act, 0, []⟩)
def refOk (p : List Nt) (n : Nt) : Bool := decide (1 ≤ n.kind) && (decide (n.kind ≤ 9) && (bareB n && oneB p n))
structure Inv (p : List Nt) (rd : Rdg) : Prop where
  last : rd.last = queuedZ p
  lives : ∀ t, 1 ≤ t → rd.lives t = liveOf (ofL p t)
  low : ∀ t, t ≤ 0 → rd.lives t = none
  high : ∀ t, rd.last < t → ofL p t = []
theorem Inv.nil : Inv [] Rdg.zero := ⟨rfl, fun _ _ => rfl, fun _ _ => rfl, fun _ _ => rfl⟩
theorem ofL_snoc (p : List Nt) (n : Nt) (t : Int) : ofL (p ++ [n]) t = if n.txn = t then ofL p t ++ [n] else ofL p t := by
  unfold ofL
  rw [List.filter_append]
  by_cases h : n.txn = t
  · rw [if_pos h, List.filter_cons, if_pos (by simpa using h)]; rfl
  · rw [if_neg h, List.filter_cons, if_neg (by simpa using h)]; simp
theorem liveOf_snoc (f : Nt) (r : List Nt) (n : Nt) : liveOf (f :: r ++ [n]) = if f.kind = 3 ∧ endsB n.kind = false then some (f.act, n.kind == 4) else none := by
  show liveOf (f :: (r ++ [n])) = _
  unfold liveOf
  have e : (f :: (r ++ [n])).getLast (by simp) = n := by
    rw [List.getLast_cons (by simp)]
    simp
  simp only [e]
theorem liveOf_one (n : Nt) : liveOf [n] = if n.kind = 3 ∧ endsB n.kind = false then some (n.act, n.kind == 4) else none := rfl
theorem liveOf_some {l : List Nt} {a : Act} {s : Bool} (h : liveOf l = some (a, s)) : ∃ f r, l = f :: r ∧ f.kind = 3 ∧ f.act = a := by
  cases l with
  | nil => cases h
  | cons f r =>
    unfold liveOf at h
    simp only at h
    split at h
    · rename_i hc
      injection h with h
      injection h with h1 _
      exact ⟨f, r, rfl, hc.1, h1⟩
    · cases h
theorem Inv.last_nonneg {p : List Nt} {rd : Rdg} (h : Inv p rd) : 0 ≤ rd.last := by rw [h.last]; exact (queuedZ_bound p).1
theorem stands_bare (n : Nt) (hx : ofTx n.kind = false) : standsB n = (decide (1 ≤ n.kind) && (decide (n.kind ≤ 9) && (bareB n && (n.txn == 0)))) ∧ (standsB n = true → n.txn = 0 ∧ n.kind ≠ 3) := by
  obtain ⟨k, t, a, c, x⟩ := n
  unfold ofTx at hx
  simp only [Bool.and_eq_false_iff, decide_eq_false_iff_not] at hx
  unfold standsB bareB
  simp only
  by_cases h1 : k = 1
  · subst h1
    simp only [if_true]
    constructor
    · by_cases ht : t = 0 <;> by_cases ha : a = Act.zero <;> by_cases hxx : x = [] <;> simp [ht, ha, hxx]
    · simp; intro h _ _; exact h
  · by_cases h2 : k = 2
    · subst h2
      simp only [if_neg h1, if_true]
      constructor
      · by_cases ht : t = 0 <;> by_cases ha : a = Act.zero <;> simp [ht, ha]
      · simp; intro h _; exact h
    · by_cases h9 : k = 9
      · subst h9
        simp only [if_neg h1, if_neg h2, if_true]
        constructor
        · by_cases ht : t = 0 <;> by_cases ha : a = Act.zero <;> by_cases hxx : x = [] <;> by_cases hc : c = 0 <;> simp [ht, ha, hxx, hc]
        · simp; intro h _ _ _; exact h
      · simp only [if_neg h1, if_neg h2, if_neg h9]
        refine ⟨?_, fun h => by cases h⟩
        have : ¬ (1 ≤ k ∧ k ≤ 9) := by omega
        by_cases hk : 1 ≤ k
        · have h9' : ¬ k ≤ 9 := fun h => this ⟨hk, h⟩
          simp [h9']
        · simp [hk]
theorem takes_ref {p : List Nt} {rd : Rdg} (h : Inv p rd) (n : Nt) : (takesR rd n).1 = refOk p n ∧ ((takesR rd n).1 = true → Inv (p ++ [n]) (takesR rd n).2) := by
  have hl := h.last_nonneg
  unfold takesR
  by_cases hx : ofTx n.kind = false
  · rw [if_pos hx]
    obtain ⟨s1, s2⟩ := stands_bare n hx
    unfold ofTx at hx
    simp only [Bool.and_eq_false_iff, decide_eq_false_iff_not] at hx
    refine ⟨?_, fun hs => ?_⟩
    · show standsB n = refOk p n
      rw [s1]
      unfold refOk oneB
      by_cases hk : n.kind = 1 ∨ n.kind = 2 ∨ n.kind = 9
      · rw [if_pos hk]
      · have : ¬ (1 ≤ n.kind ∧ n.kind ≤ 9) := by omega
        by_cases h1 : 1 ≤ n.kind
        · have h9 : ¬ n.kind ≤ 9 := fun h => this ⟨h1, h⟩
          simp [h9]
        · simp [h1]
    · obtain ⟨t0, k3⟩ := s2 hs
      refine ⟨?_, fun t ht => ?_, h.low, fun t ht => ?_⟩
      · rw [queuedZ_snoc, if_neg k3]; exact h.last
      · rw [ofL_snoc, if_neg (by omega)]; exact h.lives t ht
      · have ht' : rd.last < t := ht
        rw [ofL_snoc, if_neg (by omega)]; exact h.high t ht
  · have hx' : ofTx n.kind = true := by simpa using hx
    rw [if_neg hx]
    unfold ofTx at hx'
    simp only [Bool.and_eq_true, decide_eq_true_eq] at hx'
    have hb : bareB n = decide (n.code = 0 ∧ n.text = []) := by
      unfold bareB
      rw [if_neg (by omega), if_neg (by omega), if_neg (by omega)]
      obtain ⟨k, t, a, c, x⟩ := n
      simp
    have k1 : decide (1 ≤ n.kind) = true := by simp; omega
    have k9 : decide (n.kind ≤ 9) = true := by simp; omega
    have ho : refOk p n = (decide (n.code = 0 ∧ n.text = []) && oneB p n) := by
      unfold refOk
      rw [k1, k9, hb, Bool.true_and, Bool.true_and]
    rw [ho]
    by_cases hc : n.code ≠ 0 ∨ n.text ≠ []
    · rw [if_pos hc]
      have : ¬ (n.code = 0 ∧ n.text = []) := by
        rintro ⟨h1, h2⟩
        rcases hc with hc | hc
        · exact hc h1
        · exact hc h2
      rw [decide_eq_false this, Bool.false_and]
      exact ⟨rfl, fun h => by cases h⟩
    · rw [if_neg hc]
      have hc' : n.code = 0 ∧ n.text = [] := by
        constructor
        · exact Classical.byContradiction fun hh => hc (.inl hh)
        · exact Classical.byContradiction fun hh => hc (.inr hh)
      rw [decide_eq_true hc', Bool.true_and]
      unfold oneB
      have e1 : ¬ (n.kind = 1 ∨ n.kind = 2 ∨ n.kind = 9) := by omega
      rw [if_neg e1]
      by_cases h3 : n.kind = 3
      · rw [if_pos h3, if_pos h3]
        unfold beginsR
        rw [← h.last]
        by_cases hcnd : n.txn = rd.last + 1 ∧ isAct n.act.kind = true
        · rw [if_pos hcnd]
          obtain ⟨ht, ha⟩ := hcnd
          unfold isAct at ha
          refine ⟨by rw [ha]; simp [ht], fun _ => ?_⟩
          have he : ofL p n.txn = [] := h.high _ (by omega)
          refine ⟨?_, fun t h1 => ?_, fun t h0 => ?_, fun t hlt => ?_⟩
          · show n.txn = _
            rw [queuedZ_snoc, if_pos h3, ← h.last]; exact ht
          · show Lives.put rd.lives n.txn _ t = _
            unfold Lives.put
            rw [ofL_snoc]
            by_cases e : t = n.txn
            · subst e
              rw [if_pos rfl, if_pos rfl, he]
              show _ = liveOf [n]
              rw [liveOf_one, if_pos ⟨h3, by rw [h3]; rfl⟩, h3]
              rfl
            · rw [if_neg e, if_neg (fun e' => e e'.symm)]; exact h.lives t h1
          · show Lives.put rd.lives n.txn _ t = none
            unfold Lives.put
            rw [if_neg (by omega)]
            exact h.low t h0
          · have hlt' : n.txn < t := hlt
            rw [ofL_snoc, if_neg (by omega)]
            exact h.high t (by omega)
        · rw [if_neg hcnd]
          refine ⟨?_, fun h => by cases h⟩
          unfold isAct at hcnd
          by_cases ht : n.txn = rd.last + 1
          · have : (decide (1 ≤ n.act.kind) && decide (n.act.kind ≤ 4)) = false := by
              rw [Bool.eq_false_iff]; exact fun hh => hcnd ⟨ht, hh⟩
            rw [this]; simp
          · have : (n.txn == rd.last + 1) = false := by simpa using ht
            rw [this]; rfl
      · rw [if_neg h3, if_neg h3]
        unfold followsR
        by_cases ht : 0 < n.txn
        · rw [decide_eq_true ht, Bool.true_and, h.lives n.txn (by omega)]
          unfold mayB
          cases hq : liveOf (ofL p n.txn) with
          | none => exact ⟨rfl, fun h => by cases h⟩
          | some v =>
            obtain ⟨a, s⟩ := v
            obtain ⟨f, r, hfr, hf3, hfa⟩ := liveOf_some hq
            have hle : n.txn ≤ rd.last := by
              rcases Int.lt_or_le rd.last n.txn with hh | hh
              · rw [h.high _ hh] at hfr; cases hfr
              · exact hh
            simp only
            by_cases ha : a = n.act
            · rw [if_neg (fun hne => hne ha), decide_eq_true ha, Bool.true_and]
              have inv : ∀ v, v = liveOf (f :: r ++ [n]) → Inv (p ++ [n]) ⟨rd.lives.put n.txn v, rd.last⟩ := fun v hv => by
                refine ⟨?_, fun t h1 => ?_, fun t h0 => ?_, fun t hlt => ?_⟩
                · show rd.last = _
                  rw [queuedZ_snoc, if_neg h3]; exact h.last
                · show Lives.put rd.lives n.txn _ t = _
                  unfold Lives.put
                  rw [ofL_snoc]
                  by_cases e : t = n.txn
                  · subst e
                    rw [if_pos rfl, if_pos rfl, hfr]; exact hv
                  · rw [if_neg e, if_neg (fun e' => e e'.symm)]; exact h.lives t h1
                · show Lives.put rd.lives n.txn _ t = none
                  unfold Lives.put
                  rw [if_neg (by omega)]
                  exact h.low t h0
                · have hlt' : rd.last < t := hlt
                  rw [ofL_snoc, if_neg (by omega)]
                  exact h.high t hlt'
              rw [liveOf_snoc] at inv
              by_cases h4 : n.kind = 4
              · rw [if_pos h4, if_pos h4]
                refine ⟨rfl, fun _ => inv _ ?_⟩
                rw [if_pos ⟨hf3, by rw [h4]; rfl⟩, hfa, h4]; rfl
              · rw [if_neg h4, if_neg h4]
                by_cases h6 : n.kind = 6
                · rw [if_pos h6, if_pos (.inr (.inr h6))]
                  refine ⟨rfl, fun _ => inv _ ?_⟩
                  rw [if_pos ⟨hf3, by rw [h6]; rfl⟩, hfa, h6]; rfl
                · rw [if_neg h6]
                  by_cases h8 : n.kind = 8
                  · rw [if_pos h8, if_neg (by omega)]
                    refine ⟨by rw [h8]; simp, fun _ => inv _ ?_⟩
                    rw [if_neg]
                    rintro ⟨_, he⟩
                    rw [h8] at he; cases he
                  · rw [if_neg h8, if_pos (by omega)]
                    refine ⟨rfl, fun _ => inv _ ?_⟩
                    rw [if_neg]
                    rintro ⟨_, he⟩
                    have : n.kind = 5 ∨ n.kind = 7 := by omega
                    rcases this with e | e
                    · rw [e] at he; cases he
                    · rw [e] at he; cases he
            · rw [if_pos ha, decide_eq_false ha, Bool.false_and]
              exact ⟨rfl, fun h => by cases h⟩
        · rw [decide_eq_false ht, Bool.false_and, h.low n.txn (by omega)]
          exact ⟨rfl, fun h => by cases h⟩
end Go.Proofs.YtfapilgmgjmfeaaGreatDoor
