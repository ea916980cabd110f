/-
  A rune beyond ASCII is decoded from bytes beyond ASCII.
-/
import Derived.Test.YtolfpkjohlbfdaaDoorBase
import Derived.Laws.RangeAny
import Derived.Lib.IndexAny
namespace Go.Proofs.YtolfpkjohlbfdaaDoor
open Go.RowKit

theorem decode_skip (s : ByteArray) (pos : Nat) (h : pos < s.size) (ha : 128 ≤ (s[pos]'h).toNat) (j : Nat) (h1 : pos ≤ j) (h2 : j < pos + (Utf8.decode s pos).2) : j < s.size ∧ 128 ≤ (s.get! j).toNat := by
  have hn : ¬ (s[pos]'h).toNat < 128 := by omega
  have e0 : s.get! pos = s[pos]'h := get_at s pos h
  have key : ∀ k, (decide (pos + k < s.size) && (s.get! (pos + k)).toNat / 64 == 2) = true → pos + k < s.size ∧ 128 ≤ (s.get! (pos + k)).toNat := fun k hk => by
    simp only [Bool.and_eq_true, decide_eq_true_eq, beq_iff_eq] at hk
    omega
  have z : pos < s.size ∧ 128 ≤ (s.get! pos).toNat := ⟨h, by rw [e0]; exact ha⟩
  have fin : ∀ n, (∀ k, k < n → pos + k < s.size ∧ 128 ≤ (s.get! (pos + k)).toNat) → j < pos + n → j < s.size ∧ 128 ≤ (s.get! j).toNat := fun n hk hj => by
    have := hk (j - pos) (by omega)
    rwa [show pos + (j - pos) = j by omega] at this
  have one : ∀ k, k < 1 → pos + k < s.size ∧ 128 ≤ (s.get! (pos + k)).toNat := fun k hk => by
    obtain rfl : k = 0 := by omega
    exact z
  revert h2
  simp only [Utf8.decode, get_at s pos h, hn, if_false]
  split
  · rename_i g
    simp only [Bool.and_eq_true] at g
    have k1 := key 1 (by simpa using g.2)
    have two : ∀ k, k < 2 → pos + k < s.size ∧ 128 ≤ (s.get! (pos + k)).toNat := fun k hk => by
      have : k = 0 ∨ k = 1 := by omega
      rcases this with rfl | rfl
      · exact z
      · exact k1
    split
    · exact fin 2 two
    · exact fin 1 one
  · split
    · rename_i g
      simp only [Bool.and_eq_true] at g
      have k1 := key 1 (by simpa using g.1.2)
      have k2 := key 2 (by simpa using g.2)
      have three : ∀ k, k < 3 → pos + k < s.size ∧ 128 ≤ (s.get! (pos + k)).toNat := fun k hk => by
        have : k = 0 ∨ k = 1 ∨ k = 2 := by omega
        rcases this with rfl | rfl | rfl
        · exact z
        · exact k1
        · exact k2
      split
      · exact fin 3 three
      · exact fin 1 one
    · split
      · rename_i g
        simp only [Bool.and_eq_true] at g
        have k1 := key 1 (by simpa using g.1.1.2)
        have k2 := key 2 (by simpa using g.1.2)
        have k3 := key 3 (by simpa using g.2)
        have four : ∀ k, k < 4 → pos + k < s.size ∧ 128 ≤ (s.get! (pos + k)).toNat := fun k hk => by
          have : k = 0 ∨ k = 1 ∨ k = 2 ∨ k = 3 := by omega
          rcases this with rfl | rfl | rfl | rfl
          · exact z
          · exact k1
          · exact k2
          · exact k3
        split
        · exact fin 4 four
        · exact fin 1 one
      · exact fin 1 one

/-- Where a rune beyond ASCII is skipped there was no wildcard. -/
theorem noany_skip (s : ByteArray) (pos : Nat) (h : pos < s.size) (ha : 128 ≤ (s[pos]'h).toNat) (hno : Lib.NoAny s.data.toList [42, 63] pos) : Lib.NoAny s.data.toList [42, 63] (pos + (Utf8.decode s pos).2) := fun j b hj hb => by
  by_cases e : j < pos
  · exact hno j b e hb
  · obtain ⟨g1, g2⟩ := decode_skip s pos h ha j (by omega) hj
    have hbj : s.get! j = b := by
      have : s.data.toList[j]? = some (s[j]'g1) := by
        rw [List.getElem?_eq_getElem (by simpa using g1)]; rfl
      rw [this] at hb
      have e1 : s.get! j = s[j]'g1 := get_at s j g1
      rw [e1]; exact Option.some.inj hb
    rw [hbj] at g2
    have n1 : b ≠ 42 := fun e => by subst e; simp at g2
    have n2 : b ≠ 63 := fun e => by subst e; simp at g2
    simp [n1, n2]
theorem decode_in (s : ByteArray) (pos : Nat) (h : pos < s.size) (ha : 128 ≤ (s[pos]'h).toNat) : pos + (Utf8.decode s pos).2 ≤ s.size := by
  have hd := (decode_high s pos h ha).2
  have := (decode_skip s pos h ha (pos + (Utf8.decode s pos).2 - 1) (by omega) (by omega)).1
  omega
end Go.Proofs.YtolfpkjohlbfdaaDoor
