/-
  What the law AuditLife goes through, as plain functions.
-/
import Derived.Test.YtfapilgmgjmfeaaOpe
namespace Go.Proofs.Ytfapilgmgjmfeaa
open Go.RowKit

def isEnd (k : Int) : Prop := k = 5 ∨ k = 7 ∨ k = 8
def Qd (l : List Nt) (t : Int) : Prop := ∃ n, n ∈ l ∧ n.kind = 3 ∧ n.txn = t
def En (l : List Nt) (t : Int) : Prop := ∃ n, n ∈ l ∧ isEnd n.kind ∧ n.txn = t
theorem queued_is : ∀ (l : List Nt) (f : SetI) (t : Int), (l.foldl qF f t).isSome = true ↔ (f t).isSome = true ∨ Qd l t
  | [], f, t => by simp [Qd]
  | n :: r, f, t => by
    rw [List.foldl_cons, queued_is r]
    unfold qF
    have e : Qd (n :: r) t ↔ (n.kind = 3 ∧ n.txn = t) ∨ Qd r t := by
      constructor
      · rintro ⟨m, hm, h⟩
        rcases List.mem_cons.1 hm with rfl | hm
        · exact .inl h
        · exact .inr ⟨m, hm, h⟩
      · rintro (h | ⟨m, hm, h⟩)
        · exact ⟨n, by simp, h⟩
        · exact ⟨m, by simp [hm], h⟩
    rw [e]
    by_cases h3 : n.kind = 3
    · rw [if_pos h3]
      unfold updI
      by_cases ht : t = n.txn
      · rw [if_pos ht]; simp [h3, ht]
      · rw [if_neg ht]
        have : ¬ n.txn = t := fun e => ht e.symm
        simp [this]
    · rw [if_neg h3]; simp [h3]
theorem ended_is : ∀ (l : List Nt) (f : SetI) (t : Int), (l.foldl eF f t).isSome = true ↔ (f t).isSome = true ∧ ¬ En l t
  | [], f, t => by simp [En]
  | n :: r, f, t => by
    rw [List.foldl_cons, ended_is r]
    unfold eF
    have e : En (n :: r) t ↔ (isEnd n.kind ∧ n.txn = t) ∨ En r t := by
      constructor
      · rintro ⟨m, hm, h⟩
        rcases List.mem_cons.1 hm with rfl | hm
        · exact .inl h
        · exact .inr ⟨m, hm, h⟩
      · rintro (h | ⟨m, hm, h⟩)
        · exact ⟨n, by simp, h⟩
        · exact ⟨m, by simp [hm], h⟩
    rw [e]
    by_cases h3 : n.kind = 5 ∨ n.kind = 7 ∨ n.kind = 8
    · rw [if_pos h3]
      unfold updI
      by_cases ht : t = n.txn
      · rw [if_pos ht]; simp [isEnd, h3, ht]
      · rw [if_neg ht]
        have : ¬ n.txn = t := fun e => ht e.symm
        simp [this]
    · rw [if_neg h3]; simp [isEnd, h3]
theorem open_is (l : List Nt) (t : Int) : (openM l t).isSome = true ↔ Qd l t ∧ ¬ En l t := by
  unfold openM queuedM
  rw [ended_is, queued_is]
  simp

/-- What one note of a valid log does. -/
inductive Does (rd : Rdg) (n : Nt) (rd' : Rdg) : Prop where
  | other (h : n.kind = 1 ∨ n.kind = 2 ∨ n.kind = 9) (ht : n.txn = 0) (e : rd' = rd)
  | queued (h : n.kind = 3) (ht : n.txn = rd.last + 1) (e : rd' = ⟨rd.lives.put n.txn (some (n.act, false)), n.txn⟩)
  | sent (h : n.kind = 4) (b : Bool) (hl : rd.lives n.txn = some (n.act, b)) (e : rd' = ⟨rd.lives.put n.txn (some (n.act, true)), rd.last⟩)
  | again (h : n.kind = 6) (hl : rd.lives n.txn = some (n.act, true)) (e : rd' = ⟨rd.lives.put n.txn (some (n.act, false)), rd.last⟩)
  | gone (h : n.kind = 8) (b : Bool) (hl : rd.lives n.txn = some (n.act, b)) (e : rd' = ⟨rd.lives.put n.txn none, rd.last⟩)
  | done (h : n.kind = 5 ∨ n.kind = 7) (hl : rd.lives n.txn = some (n.act, true)) (e : rd' = ⟨rd.lives.put n.txn none, rd.last⟩)
theorem does {rd : Rdg} {n : Nt} (h : (takesR rd n).1 = true) : Does rd n (takesR rd n).2 := by
  unfold takesR at h ⊢
  split at h
  · rename_i ho
    rw [if_pos ho]
    simp only at h ⊢
    unfold standsB at h
    split at h
    · rename_i h1
      have h := of_decide_eq_true h
      simp only [Nt.mk.injEq] at h
      exact .other (.inl h1) h.2.1 rfl
    · split at h
      · rename_i h1 h2
        have h := of_decide_eq_true h
        simp only [Nt.mk.injEq] at h
        exact .other (.inr (.inl h2)) h.2.1 rfl
      · split at h
        · rename_i h1 h2 h9
          have h := of_decide_eq_true h
          exact .other (.inr (.inr h9)) (by rw [h]) rfl
        · cases h
  · rename_i ho
    rw [if_neg ho]
    have hk : 3 ≤ n.kind ∧ n.kind ≤ 8 := by
      unfold ofTx at ho
      simpa using ho
    split at h
    · cases h
    · rename_i hc
      rw [if_neg hc]
      split at h
      · rename_i h3
        rw [if_pos h3]
        unfold beginsR at h ⊢
        split at h
        · rename_i hb
          rw [if_pos hb]
          exact .queued h3 hb.1 rfl
        · cases h
      · rename_i h3
        rw [if_neg h3]
        unfold followsR at h ⊢
        cases hl : rd.lives n.txn with
        | none => rw [hl] at h; cases h
        | some x =>
          obtain ⟨a, b⟩ := x
          rw [hl] at h
          simp only at h ⊢
          by_cases ha : a ≠ n.act
          · rw [if_pos ha] at h; cases h
          · rw [if_neg ha] at h ⊢
            obtain rfl := Classical.not_not.1 ha
            by_cases h4 : n.kind = 4
            · rw [if_pos h4] at h ⊢; exact .sent h4 b hl rfl
            · rw [if_neg h4] at h ⊢
              by_cases h6 : n.kind = 6
              · rw [if_pos h6] at h ⊢
                simp only at h
                subst h
                exact .again h6 hl rfl
              · rw [if_neg h6] at h ⊢
                by_cases h8 : n.kind = 8
                · rw [if_pos h8] at h ⊢; exact .gone h8 b hl rfl
                · rw [if_neg h8] at h ⊢
                  simp only at h
                  subst h
                  exact .done (by omega) hl rfl

/-- What stands in the law's maps, and the number, behind some notes. -/
structure Inv (l : List Nt) (rd : Rdg) (fe fs : Int → Option Int) (o : Int) : Prop where
  last : 0 ≤ rd.last
  live : ∀ t a b, rd.lives t = some (a, b) → (fe t).getD 0 = 0 ∧ (fs t).getD 0 = (if b = true then 1 else 0) ∧ 1 ≤ t ∧ t ≤ rd.last
  high : ∀ t, rd.last < t → rd.lives t = none ∧ (fe t).getD 0 = 0 ∧ (fs t).getD 0 = 0
  low : ∀ t, t < 1 → (fe t).getD 0 = 0
  is : ∀ t, (rd.lives t).isSome = true ↔ Qd l t ∧ ¬ En l t
  qd : ∀ t, Qd l t → t ≤ rd.last
  en : ∀ t, En l t → Qd l t
  num : ∃ K : List Int, K.Nodup ∧ (∀ t, t ∈ K ↔ (rd.lives t).isSome = true) ∧ o = K.length ∧ K.length ≤ l.length
theorem qd_nil (t : Int) : ¬ Qd [] t := fun ⟨n, hn, _⟩ => by simp at hn
theorem en_nil (t : Int) : ¬ En [] t := fun ⟨n, hn, _⟩ => by simp at hn
theorem Inv.zero : Inv [] Rdg.zero (fun _ => none) (fun _ => none) 0 where
  last := Int.le_refl _
  live := fun t a b h => by cases h
  high := fun t _ => ⟨rfl, rfl, rfl⟩
  low := fun t _ => rfl
  is := fun t => by simp [Rdg.zero, qd_nil]
  qd := fun t h => (qd_nil t h).elim
  en := fun t h => (en_nil t h).elim
  num := ⟨[], List.nodup_nil, fun t => by simp [Rdg.zero], rfl, Nat.le_refl _⟩
theorem qd_snoc (l : List Nt) (n : Nt) (t : Int) : Qd (l ++ [n]) t ↔ Qd l t ∨ (n.kind = 3 ∧ n.txn = t) := by
  constructor
  · rintro ⟨m, hm, h⟩
    rcases List.mem_append.1 hm with hm | hm
    · exact .inl ⟨m, hm, h⟩
    · rw [List.mem_singleton.1 hm] at h; exact .inr h
  · rintro (⟨m, hm, h⟩ | h)
    · exact ⟨m, by simp [hm], h⟩
    · exact ⟨n, by simp, h⟩
theorem en_snoc (l : List Nt) (n : Nt) (t : Int) : En (l ++ [n]) t ↔ En l t ∨ (isEnd n.kind ∧ n.txn = t) := by
  constructor
  · rintro ⟨m, hm, h⟩
    rcases List.mem_append.1 hm with hm | hm
    · exact .inl ⟨m, hm, h⟩
    · rw [List.mem_singleton.1 hm] at h; exact .inr h
  · rintro (⟨m, hm, h⟩ | h)
    · exact ⟨m, by simp [hm], h⟩
    · exact ⟨n, by simp, h⟩
theorem put_at (f : Lives) (t : Int) (v : Option (Act × Bool)) (u : Int) : f.put t v u = if u = t then v else f u := rfl
theorem upd_at {β : Type} (f : Int → Option β) (t : Int) (v : Option β) (u : Int) : updI f t v u = if u = t then v else f u := rfl
theorem Inv.other {l : List Nt} {rd : Rdg} {fe fs : Int → Option Int} {o : Int} {n : Nt} (I : Inv l rd fe fs o) (h3 : n.kind ≠ 3) (he : ¬ isEnd n.kind) : Inv (l ++ [n]) rd fe fs o where
  last := I.last
  live := I.live
  high := I.high
  low := I.low
  is := fun t => by rw [I.is, qd_snoc, en_snoc]; simp [h3, he]
  qd := fun t h => by
    rcases (qd_snoc l n t).1 h with h | h
    · exact I.qd t h
    · exact absurd h.1 h3
  en := fun t h => by
    rcases (en_snoc l n t).1 h with h | h
    · exact (qd_snoc l n t).2 (.inl (I.en t h))
    · exact absurd h.1 he
  num := by
    obtain ⟨K, h1, h2, h3, h4⟩ := I.num
    exact ⟨K, h1, h2, h3, by simp; omega⟩
theorem Inv.queued {l : List Nt} {rd : Rdg} {fe fs : Int → Option Int} {o : Int} {n : Nt} (I : Inv l rd fe fs o) (h3 : n.kind = 3) (ht : n.txn = rd.last + 1) : Inv (l ++ [n]) ⟨rd.lives.put n.txn (some (n.act, false)), n.txn⟩ fe fs (o + 1) where
  last := by have := I.last; simp only; omega
  live := fun t a b h => by
    simp only [put_at] at h ⊢
    have hh := I.high n.txn (by omega)
    have hL := I.last
    by_cases e : t = n.txn
    · rw [if_pos e] at h
      simp only [Option.some.injEq, Prod.mk.injEq] at h
      rw [e, ← h.2]
      exact ⟨hh.2.1, by rw [hh.2.2]; simp, by omega, Int.le_refl _⟩
    · rw [if_neg e] at h
      obtain ⟨k1, k2, k3, k4⟩ := I.live t a b h
      exact ⟨k1, k2, k3, by omega⟩
  high := fun t h => by
    simp only [put_at] at h ⊢
    rw [if_neg (by omega)]
    exact I.high t (by omega)
  low := I.low
  is := fun t => by
    have hen : ¬ isEnd n.kind := by unfold isEnd; omega
    simp only [put_at]
    rw [qd_snoc, en_snoc]
    by_cases e : t = n.txn
    · rw [if_pos e]
      have h1 : ¬ En l t := fun h => by have := I.qd t (I.en t h); omega
      exact ⟨fun _ => ⟨.inr ⟨h3, e.symm⟩, fun h => h.elim h1 (fun h => hen h.1)⟩, fun _ => rfl⟩
    · rw [if_neg e, I.is]
      have : ¬ n.txn = t := fun h => e h.symm
      simp [hen, this]
  qd := fun t h => by
    simp only
    rcases (qd_snoc l n t).1 h with h | h
    · have := I.qd t h; omega
    · omega
  en := fun t h => by
    rcases (en_snoc l n t).1 h with h | h
    · exact (qd_snoc l n t).2 (.inl (I.en t h))
    · exact absurd h.1 (by unfold isEnd; omega)
  num := by
    obtain ⟨K, h1, h2, h3, h4⟩ := I.num
    have hh := I.high n.txn (by omega)
    have hnot : n.txn ∉ K := fun h => by
      have := (h2 _).1 h
      rw [hh.1] at this; cases this
    refine ⟨n.txn :: K, List.nodup_cons.2 ⟨hnot, h1⟩, fun t => ?_, by rw [h3]; simp, by simp; omega⟩
    simp only [put_at, List.mem_cons]
    by_cases e : t = n.txn
    · simp [e]
    · simp [e, h2]
theorem Inv.sent {l : List Nt} {rd : Rdg} {fe fs : Int → Option Int} {o : Int} {n : Nt} (I : Inv l rd fe fs o) (hk : n.kind = 4 ∨ n.kind = 6) (b b' : Bool) (hl : rd.lives n.txn = some (n.act, b)) :
    Inv (l ++ [n]) ⟨rd.lives.put n.txn (some (n.act, b')), rd.last⟩ fe (updI fs n.txn (some (if b' = true then 1 else 0))) o where
  last := I.last
  live := fun t a b2 h => by
    obtain ⟨k1, k2, k3, k4⟩ := I.live _ _ _ hl
    simp only [put_at, upd_at] at h ⊢
    by_cases e : t = n.txn
    · rw [if_pos e] at h ⊢
      simp only [Option.some.injEq, Prod.mk.injEq] at h
      rw [e, ← h.2]
      exact ⟨k1, rfl, k3, k4⟩
    · rw [if_neg e] at h ⊢
      exact I.live t a b2 h
  high := fun t h => by
    obtain ⟨k1, k2, k3, k4⟩ := I.live _ _ _ hl
    simp only [put_at, upd_at] at h ⊢
    rw [if_neg (by omega), if_neg (by omega)]
    exact I.high t h
  low := I.low
  is := fun t => by
    have hen : ¬ isEnd n.kind := by unfold isEnd; omega
    have h3 : ¬ n.kind = 3 := by omega
    simp only [put_at]
    rw [qd_snoc, en_snoc]
    simp only [h3, hen, false_and, or_false]
    by_cases e : t = n.txn
    · rw [if_pos e, ← I.is, e, hl]; simp
    · rw [if_neg e, I.is]
  qd := fun t h => by
    rcases (qd_snoc l n t).1 h with h | h
    · exact I.qd t h
    · omega
  en := fun t h => by
    rcases (en_snoc l n t).1 h with h | h
    · exact (qd_snoc l n t).2 (.inl (I.en t h))
    · exact absurd h.1 (by unfold isEnd; omega)
  num := by
    obtain ⟨K, h1, h2, h3, h4⟩ := I.num
    refine ⟨K, h1, fun t => ?_, h3, by simp; omega⟩
    simp only [put_at]
    by_cases e : t = n.txn
    · rw [if_pos e, h2, e, hl]; simp
    · rw [if_neg e, h2]
theorem Inv.ends {l : List Nt} {rd : Rdg} {fe fs : Int → Option Int} {o : Int} {n : Nt} (I : Inv l rd fe fs o) (hk : isEnd n.kind) (b : Bool) (hl : rd.lives n.txn = some (n.act, b)) :
    Inv (l ++ [n]) ⟨rd.lives.put n.txn none, rd.last⟩ (updI fe n.txn (some 1)) fs (o - 1) where
  last := I.last
  live := fun t a b2 h => by
    simp only [put_at, upd_at] at h ⊢
    by_cases e : t = n.txn
    · rw [if_pos e] at h; cases h
    · rw [if_neg e] at h ⊢
      exact I.live t a b2 h
  high := fun t h => by
    obtain ⟨k1, k2, k3, k4⟩ := I.live _ _ _ hl
    simp only [put_at, upd_at] at h ⊢
    rw [if_neg (by omega), if_neg (by omega)]
    exact I.high t h
  low := fun t h => by
    obtain ⟨k1, k2, k3, k4⟩ := I.live _ _ _ hl
    simp only [upd_at]
    rw [if_neg (by omega)]
    exact I.low t h
  is := fun t => by
    have h3 : ¬ n.kind = 3 := by unfold isEnd at hk; omega
    simp only [put_at]
    rw [qd_snoc, en_snoc]
    simp only [h3, hk, false_and, or_false, true_and]
    by_cases e : t = n.txn
    · rw [if_pos e]; simp [e]
    · rw [if_neg e, I.is]
      have : ¬ n.txn = t := fun h => e h.symm
      simp [this]
  qd := fun t h => by
    rcases (qd_snoc l n t).1 h with h | h
    · exact I.qd t h
    · unfold isEnd at hk; omega
  en := fun t h => by
    rcases (en_snoc l n t).1 h with h | h
    · exact (qd_snoc l n t).2 (.inl (I.en t h))
    · refine (qd_snoc l n t).2 (.inl ?_)
      rw [← h.2]
      exact ((I.is n.txn).1 (by rw [hl]; rfl)).1
  num := by
    obtain ⟨K, h1, h2, h3, h4⟩ := I.num
    have hin : n.txn ∈ K := (h2 _).2 (by rw [hl]; rfl)
    refine ⟨K.erase n.txn, h1.erase _, fun t => ?_, ?_, ?_⟩
    · simp only [put_at]
      rw [h1.mem_erase_iff]
      by_cases e : t = n.txn
      · simp [e]
      · simp [e, h2]
    · have := List.length_pos_of_mem hin
      rw [h3, List.length_erase_of_mem hin]; omega
    · rw [List.length_erase_of_mem hin]; simp; omega
theorem Inv.open_len {l : List Nt} {rd : Rdg} {fe fs : Int → Option Int} {o : Int} (I : Inv l rd fe fs o) {ss : List Int} (h : OpenIs l ss) : (ss.length : Int) = o := by
  obtain ⟨K, h1, h2, h3, h4⟩ := I.num
  have hnd : ss.Nodup := h.1.imp (fun h => by omega)
  have hp : ss.Perm K := (List.perm_ext_iff_of_nodup hnd h1).2 fun t => by rw [h.2, h2, open_is, I.is]
  rw [h3, hp.length_eq]
end Go.Proofs.Ytfapilgmgjmfeaa
