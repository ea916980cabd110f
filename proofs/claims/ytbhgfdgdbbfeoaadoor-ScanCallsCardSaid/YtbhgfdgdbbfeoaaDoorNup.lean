/-
  Digits of a number are read as that number, whatever follows but a digit.
-/
import Derived.Test.YtbhgfdgdbbfeoaaDoorWrd
namespace Go.Proofs.YtbhgfdgdbbfeoaaDoor
open Go.RowKit Lib

theorem u8ofn (n : Nat) (h : n < 256) : (UInt8.ofNat n).toNat = n := by simp; omega
theorem digB_of (k : Nat) (h : k < 10) : digB (UInt8.ofNat (48 + k)) = true := by
  unfold digB; rw [u8ofn _ (by omega)]; exact decide_eq_true ⟨by omega, by omega⟩
theorem dec_all (u : Nat) : ∀ c ∈ decDigits u, digB c = true := by
  induction u using Nat.strongRecOn with
  | ind u ih =>
    rw [decDigits]
    split
    · rename_i h; intro c hc; simp only [List.mem_singleton] at hc; rw [hc]; exact digB_of u h
    · rename_i h
      intro c hc
      rw [List.mem_append] at hc
      rcases hc with hc | hc
      · exact ih (u / 10) (by omega) c hc
      · simp only [List.mem_singleton] at hc; rw [hc]; exact digB_of (u % 10) (by omega)
theorem dec_cap (u : Nat) (hu : u ≤ 9007199254740991) : capN (decDigits u) = (u : Int) := by
  induction u using Nat.strongRecOn with
  | ind u ih =>
    rw [decDigits]
    split
    · rename_i h
      show capS 0 _ = _
      rw [capS_small _ _ (by omega), u8ofn _ (by omega)]; omega
    · rename_i h
      rw [capN_snoc, ih (u / 10) (by omega) (by omega), capS_small _ _ (by omega), u8ofn _ (by omega)]
      omega
theorem dec_ne (u : Nat) : decDigits u ≠ [] := by
  rw [decDigits]; split <;> simp
theorem dec_head (u : Nat) (h : 1 ≤ u) (t : List UInt8) : ((decDigits u ++ t).getD 0 0).toNat ≠ 48 := by
  induction u using Nat.strongRecOn generalizing t with
  | ind u ih =>
    rw [decDigits]
    split
    · rename_i h1
      show (UInt8.ofNat (48 + u)).toNat ≠ 48
      rw [u8ofn _ (by omega)]; omega
    · rw [List.append_assoc]; exact ih (u / 10) (by omega) (by omega) _
theorem dec_head_dig (u : Nat) (t : List UInt8) : digB ((decDigits u ++ t).getD 0 0) = true := by
  have h1 := dec_ne u
  have h2 := dec_all u
  match decDigits u, h1, h2 with
  | [], h1, _ => exact absurd rfl h1
  | c :: r, _, h2 => exact h2 c (by simp)
theorem digs_all (l t : List UInt8) (h : ∀ c ∈ l, digB c = true) (ht : digs t = []) : digs (l ++ t) = l := by
  induction l with
  | nil => exact ht
  | cons c r ih => rw [List.cons_append, digs_step _ _ (h c (by simp)), ih (fun x hx => h x (by simp [hx]))]

/-- What follows is no digit. -/
theorem readS_dec (u : Nat) (hu : u ≤ 9007199254740991) (t : List UInt8) (ht : digs t = []) : readS 0 (decDigits u ++ t) = ((u : Int), (decDigits u).length, 0) := by
  have hn := dec_ne u
  have hl : 0 < (decDigits u).length := List.length_pos_iff.2 hn
  unfold readS
  rw [if_neg (by rw [List.length_append]; omega), dec_head_dig, if_neg (by decide), List.drop_zero, digs_all _ _ (dec_all u) ht, dec_cap u hu]
  rw [if_neg, if_neg (by omega), if_neg (by decide), Nat.zero_add]
  rintro ⟨h1, h2⟩
  by_cases h0 : 1 ≤ u
  · exact dec_head u h0 t h1
  · obtain rfl : u = 0 := by omega
    rw [decDigits_one (by omega)] at h2; simp at h2
theorem readS_neg (u : Nat) (h0 : 1 ≤ u) (hu : u ≤ 9007199254740991) (t : List UInt8) (ht : digs t = []) : readS 1 (45 :: (decDigits u ++ t)) = (-(u : Int), (decDigits u).length + 1, 0) := by
  have hn := dec_ne u
  have hl : 0 < (decDigits u).length := List.length_pos_iff.2 hn
  unfold readS
  have e1 : (45 :: (decDigits u ++ t)).getD 1 0 = (decDigits u ++ t).getD 0 0 := rfl
  have e2 : (45 :: (decDigits u ++ t)).drop 1 = decDigits u ++ t := rfl
  rw [if_neg (by rw [List.length_cons, List.length_append]; omega), e1, e2, dec_head_dig, if_neg (by decide), digs_all _ _ (dec_all u) ht, dec_cap u hu]
  rw [if_neg (fun h => dec_head u h0 t h.1), if_neg (by omega), if_pos rfl, Nat.add_comm]
theorem itoa_read (n : Int) (h0 : -9007199254740991 ≤ n) (h1 : n ≤ 9007199254740991) (t : List UInt8) (ht : digs t = []) : readL (itoa n ++ t) = (n, (itoa n).length, 0) := by
  unfold readL itoa
  split
  · rename_i h
    have e : hasPrefix ((45 :: decDigits n.natAbs) ++ t) [45] = true := by simp [hasPrefix]
    rw [e, if_pos rfl, List.cons_append, readS_neg _ (by omega) (by omega) t ht]
    rw [List.length_cons, show -((n.natAbs : Nat) : Int) = n by omega]
  · rename_i h
    have e : hasPrefix (decDigits n.toNat ++ t) [45] = false := by
      have h3 := dec_head_dig n.toNat t
      cases hc : decDigits n.toNat ++ t with
      | nil => rfl
      | cons c r =>
        rw [hc] at h3
        have h4 : 48 ≤ c.toNat ∧ c.toNat ≤ 57 := of_decide_eq_true h3
        simp only [hasPrefix, List.isPrefixOf, Bool.and_true]
        rw [beq_eq_false_iff_ne]
        intro e; rw [← e] at h4; simp at h4
    rw [e, if_neg (by decide), readS_dec _ (by omega) t ht, show ((n.toNat : Nat) : Int) = n by omega]
theorem itoa_inj (m n : Int) (h0 : -9007199254740991 ≤ n) (h1 : n ≤ 9007199254740991) (g0 : -9007199254740991 ≤ m) (g1 : m ≤ 9007199254740991) (h : itoa m = itoa n) : m = n := by
  have a := itoa_read m g0 g1 [] rfl
  rw [h, itoa_read n h0 h1 [] rfl] at a
  exact (congrArg Prod.fst a).symm
theorem dec_len (u : Nat) (k : Nat) (h : u < 10 ^ k) (hk : 1 ≤ k) : (decDigits u).length ≤ k := by
  induction k generalizing u with
  | zero => omega
  | succ k ih =>
    rw [decDigits]
    split
    · simp
    · rename_i h1
      by_cases hk0 : k = 0
      · subst hk0; simp at h; omega
      · have := ih (u / 10) (by rw [Nat.pow_succ] at h; omega) (by omega)
        rw [List.length_append, List.length_singleton]; omega
theorem itoa_len (n : Int) (h0 : -9007199254740991 ≤ n) (h1 : n ≤ 9007199254740991) : (itoa n).length ≤ 17 := by
  unfold itoa
  split
  · have := dec_len n.natAbs 16 (by omega) (by omega)
    rw [List.length_cons]; omega
  · have := dec_len n.toNat 16 (by omega) (by omega)
    omega
end Go.Proofs.YtbhgfdgdbbfeoaaDoor
