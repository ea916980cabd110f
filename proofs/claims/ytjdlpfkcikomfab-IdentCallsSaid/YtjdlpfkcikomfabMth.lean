/-
  Plain facts on identifiers as lists of bytes: no two kinds begin alike; what lower case leaves.
-/
import Derived.Test.YtjdlpfkcikomfabLiv
namespace Go.Proofs.Ytjdlpfkcikomfab
open Go.RowKit

theorem each_byte {p : UInt8 → Prop} (h : ∀ n, n < 256 → p (UInt8.ofNat n)) (c : UInt8) : p c := by
  have := h c.toNat c.toNat_lt
  rwa [UInt8.ofNat_toNat] at this

theorem lowC_eq (c : UInt8) (x : UInt8) (hx : ¬ (65 ≤ x.toNat ∧ x.toNat ≤ 122)) : (lowC c == x) = (c == x) := by
  revert x
  have := each_byte (p := fun c => ∀ n, n < 256 → ¬ (65 ≤ n ∧ n ≤ 122) → (lowC c == UInt8.ofNat n) = (c == UInt8.ofNat n)) (by decide +kernel) c
  intro x hx
  have h := this x.toNat x.toNat_lt hx
  rwa [UInt8.ofNat_toNat] at h
theorem lowC_lowC (c : UInt8) : lowC (lowC c) = lowC c := by
  revert c; exact each_byte (by decide +kernel)
theorem digB_low (c : UInt8) : digB (lowC c) = digB c := by
  revert c; exact each_byte (by decide +kernel)
theorem up_low (c : UInt8) (h : 65 ≤ c.toNat ∧ c.toNat ≤ 90) : 97 ≤ (lowC c).toNat ∧ (lowC c).toNat ≤ 122 := by
  revert h; revert c; exact each_byte (by decide +kernel)
theorem class_low (more : List UInt8) (c : UInt8) : classB true more (lowC c) = classB true more c := by
  by_cases h : 65 ≤ c.toNat ∧ c.toNat ≤ 90
  · have h1 := up_low c h
    unfold classB
    rw [if_pos h1, if_neg (by omega), if_neg (by omega), if_pos h]
  · have : lowC c = c := by unfold lowC; rw [if_neg h]
    rw [this]
theorem class_small (more : List UInt8) (hm : ∀ c ∈ more, ¬ (65 ≤ c.toNat ∧ c.toNat ≤ 90)) (c : UInt8) (h : classB false more c = true) : lowC c = c := by
  unfold lowC
  by_cases hc : 65 ≤ c.toNat ∧ c.toNat ≤ 90
  · unfold classB at h
    rw [if_neg (by omega), if_neg (by omega), if_pos hc] at h
    cases h
  · rw [if_neg hc]

theorem lowL_len (l : List UInt8) : (lowL l).length = l.length := by unfold lowL; simp
theorem lowL_lowL (l : List UInt8) : lowL (lowL l) = lowL l := by
  unfold lowL; rw [List.map_map]; congr 1; funext c; exact lowC_lowC c
theorem ofB_low {p : UInt8 → Bool} (hp : ∀ c, p (lowC c) = p c) (l : List UInt8) : ofB p (lowL l) = ofB p l := by
  unfold ofB lowL
  rw [List.all_map]
  have : (p ∘ lowC) = p := by funext c; exact hp c
  rw [this]; simp
theorem index_low (l : List UInt8) : Lib.indexByte (lowL l) 58 = Lib.indexByte l 58 := by
  induction l with
  | nil => rfl
  | cons c l ih =>
    have ih' : Lib.indexByte (List.map lowC l) 58 = Lib.indexByte l 58 := ih
    unfold lowL
    simp only [List.map_cons, Lib.indexByte]
    rw [lowC_eq c 58 (by decide), ih']
theorem cut_low (l : List UInt8) : cutC (lowL l) = (lowL (cutC l).1, lowL (cutC l).2.1, (cutC l).2.2) := by
  unfold cutC
  rw [index_low]
  split
  · unfold lowL; simp only [List.map_take, List.map_drop]
  · rfl
theorem prefix_low (l : List UInt8) (x : UInt8) (hx : ¬ (65 ≤ x.toNat ∧ x.toNat ≤ 122)) : Lib.hasPrefix (lowL l) [x] = Lib.hasPrefix l [x] := by
  cases l with
  | nil => rfl
  | cons c l =>
    unfold lowL Lib.hasPrefix
    simp only [List.map_cons, List.isPrefixOf, Bool.and_true]
    have := lowC_eq c x hx
    rw [Bool.eq_iff_iff] at this ⊢
    simp only [beq_iff_eq] at this ⊢
    exact ⟨fun h => (this.1 h.symm).symm, fun h => (this.2 h.symm).symm⟩
theorem trim_low (l : List UInt8) (x : UInt8) (hx : ¬ (65 ≤ x.toNat ∧ x.toNat ≤ 122)) : Lib.trimPrefix (lowL l) [x] = lowL (Lib.trimPrefix l [x]) := by
  unfold Lib.trimPrefix
  rw [prefix_low l x hx]
  split
  · unfold lowL; simp only [List.map_drop]
  · rfl
theorem server_low (l : List UInt8) : serverB (lowL l) = serverB l := by
  unfold serverB hostB
  rw [cut_low, lowL_len]
  simp only [lowL_len, ofB_low (class_low _), ofB_low digB_low]
theorem event_low (l : List UInt8) : eventB (lowL l) = eventB l := by
  unfold eventB
  rw [lowL_len, prefix_low l 36 (by decide), trim_low l 36 (by decide), ofB_low (class_low _)]
theorem room_low (l : List UInt8) : roomB (lowL l) = roomB l := by
  unfold roomB namedB
  rw [lowL_len, prefix_low l 33 (by decide), trim_low l 33 (by decide), cut_low]
  simp only [ofB_low (class_low _), server_low]
theorem user_low (l : List UInt8) (h : userB l = true) : userB (lowL l) = true := by
  unfold userB namedB at h ⊢
  rw [lowL_len, prefix_low l 64 (by decide), trim_low l 64 (by decide), cut_low]
  by_cases h1 : Lib.hasPrefix l [64] = true ∧ l.length ≤ 255
  · rw [if_pos h1] at h ⊢
    by_cases h2 : (cutC (Lib.trimPrefix l [64])).2.2 = true ∧ ofB (classB false [46, 95, 61, 45, 47, 43]) (cutC (Lib.trimPrefix l [64])).1 = true
    · rw [if_pos h2] at h
      have e : lowL (cutC (Lib.trimPrefix l [64])).1 = (cutC (Lib.trimPrefix l [64])).1 := by
        have ha : (cutC (Lib.trimPrefix l [64])).1.all (classB false [46, 95, 61, 45, 47, 43]) = true := by
          have := h2.2; unfold ofB at this; rw [Bool.and_eq_true] at this; exact this.1
        unfold lowL
        rw [List.all_eq_true] at ha
        conv => rhs; rw [← List.map_id (cutC (Lib.trimPrefix l [64])).1]
        exact List.map_congr_left fun c hc => class_small _ (by decide) c (ha c hc)
      simp only [e, server_low]
      rw [if_pos h2]; exact h
    · rw [if_neg h2] at h; cases h
  · rw [if_neg h1] at h; cases h

/-! ### No two kinds begin alike -/
theorem head_prefix {l : List UInt8} {x : UInt8} (h : Lib.hasPrefix l [x] = true) : l.head? = some x := by
  cases l with
  | nil => cases h
  | cons c l =>
    unfold Lib.hasPrefix at h
    simp only [List.isPrefixOf, Bool.and_true, beq_iff_eq] at h
    rw [h]; rfl
theorem user_head {l : List UInt8} (h : userB l = true) : l.head? = some 64 := by
  unfold userB namedB at h
  split at h
  · rename_i h1; exact head_prefix h1.1
  · cases h
theorem room_head {l : List UInt8} (h : roomB l = true) : l.head? = some 33 := by
  unfold roomB namedB at h
  split at h
  · rename_i h1; exact head_prefix h1.1
  · cases h
theorem event_head {l : List UInt8} (h : eventB l = true) : l.head? = some 36 := by
  unfold eventB at h
  split at h
  · rename_i h1; exact head_prefix h1.1
  · cases h
theorem ofB_head {p : UInt8 → Bool} {l : List UInt8} (h : ofB p l = true) : ∃ c, l.head? = some c ∧ p c = true := by
  cases l with
  | nil => cases h
  | cons c l =>
    refine ⟨c, rfl, ?_⟩
    unfold ofB at h
    simp only [List.all_cons, Bool.and_eq_true] at h
    exact h.1.1
theorem server_head {l : List UInt8} (h : serverB l = true) : ∃ c, l.head? = some c ∧ classB true [46, 45] c = true := by
  unfold serverB at h
  split at h
  · cases h
  · split at h
    · split at h
      · rename_i h2
        obtain ⟨c, hc, hp⟩ := ofB_head h2.1
        refine ⟨c, ?_, hp⟩
        unfold cutC at hc
        split at hc
        · cases l with
          | nil => simp at hc
          | cons a l =>
            cases hi : (Lib.indexByte (a :: l) 58).toNat with
            | zero => rw [hi] at hc; simp at hc
            | succ n => rw [hi] at hc; simpa using hc
        · exact hc
      · cases h
    · exact ofB_head h
theorem server_not {l : List UInt8} {x : UInt8} (hx : classB true [46, 45] x = false) (h : l.head? = some x) : serverB l = false := by
  cases hs : serverB l
  · rfl
  · obtain ⟨c, hc, hp⟩ := server_head hs
    rw [h] at hc
    cases hc
    rw [hx] at hp; cases hp
theorem not_of_head {l : List UInt8} {x y : UInt8} {b : Bool} (hb : b = true → l.head? = some y) (h : l.head? = some x) (hn : x ≠ y) : b = false := by
  cases b
  · rfl
  · have := hb rfl; rw [h] at this; cases this; exact absurd rfl hn

/-- Of the four kinds at most one holds. -/
theorem one_kind (l : List UInt8) :
    (userB l = true ∧ roomB l = false ∧ eventB l = false ∧ serverB l = false) ∨ (userB l = false ∧ roomB l = true ∧ eventB l = false ∧ serverB l = false) ∨
    (userB l = false ∧ roomB l = false ∧ eventB l = true ∧ serverB l = false) ∨ (userB l = false ∧ roomB l = false ∧ eventB l = false ∧ serverB l = true) ∨
    (userB l = false ∧ roomB l = false ∧ eventB l = false ∧ serverB l = false) := by
  cases hu : userB l
  · cases hr : roomB l
    · cases he : eventB l
      · cases serverB l <;> simp
      · right; right; left
        exact ⟨rfl, rfl, rfl, server_not (by decide +kernel) (event_head he)⟩
    · right; left
      exact ⟨rfl, rfl, not_of_head event_head (room_head hr) (by decide), server_not (by decide +kernel) (room_head hr)⟩
  · left
    exact ⟨rfl, not_of_head room_head (user_head hu) (by decide), not_of_head event_head (user_head hu) (by decide), server_not (by decide +kernel) (user_head hu)⟩
theorem empty_kinds : userB [] = false ∧ roomB [] = false ∧ eventB [] = false ∧ serverB [] = false := by decide +kernel
end Go.Proofs.Ytjdlpfkcikomfab
