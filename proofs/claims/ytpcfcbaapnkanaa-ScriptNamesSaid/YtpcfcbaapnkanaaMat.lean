/-
  A valid input is what its record says, and what is read has that record.
-/
import Derived.Test.YtpcfcbaapnkanaaRd
import Derived.Test.YtpcfcbaapnkanaaByu
namespace Go.Proofs.Ytpcfcbaapnkanaa
open Go.RowKit

theorem val8 (a b c d e f g h : UInt8) : val [a, b, c, d, e, f, g, h] = ((((((a.toNat * 256 + b.toNat) * 256 + c.toNat) * 256 + d.toNat) * 256 + e.toNat) * 256 + f.toNat) * 256 + g.toNat) * 256 + h.toNat := by
  simp [val]

theorem byteAt_of (m s : Nat) : (byteAt (m : Int) s).toNat = m / 2 ^ s % 256 := by
  have h := byteAt_nat (m : Int) s
  have e : ((m : Int) / (2 ^ s : Nat) % 256) = ((m / 2 ^ s % 256 : Nat) : Int) := by
    rw [Int.natCast_emod, Int.natCast_ediv]; rfl
  rw [e] at h
  exact Int.ofNat.inj h

theorem val_be8 (m : Nat) (hm : m < 18446744073709551616) : val (be8 m) = m := by
  unfold be8
  rw [val8]
  simp only [byteAt_of]
  have q1 : m / 2 ^ 8 = m / 256 := rfl
  have q2 : m / 2 ^ 16 = m / 256 / 256 := by rw [Nat.div_div_eq_div_mul]
  have q3 : m / 2 ^ 24 = m / 256 / 256 / 256 := by simp only [Nat.div_div_eq_div_mul]
  have q4 : m / 2 ^ 32 = m / 256 / 256 / 256 / 256 := by simp only [Nat.div_div_eq_div_mul]
  have q5 : m / 2 ^ 40 = m / 256 / 256 / 256 / 256 / 256 := by simp only [Nat.div_div_eq_div_mul]
  have q6 : m / 2 ^ 48 = m / 256 / 256 / 256 / 256 / 256 / 256 := by simp only [Nat.div_div_eq_div_mul]
  have q7 : m / 2 ^ 56 = m / 256 / 256 / 256 / 256 / 256 / 256 / 256 := by simp only [Nat.div_div_eq_div_mul]
  rw [q1, q2, q3, q4, q5, q6, q7, Nat.pow_zero, Nat.div_one]
  omega

theorem list8 {t : List UInt8} (h : t.length = 8) : ∃ a b c d e f g i, t = [a, b, c, d, e, f, g, i] := by
  match t, h with
  | [a, b, c, d, e, f, g, i], _ => exact ⟨a, b, c, d, e, f, g, i, rfl⟩

theorem be8_val (t : List UInt8) (h : t.length = 8) : be8 (val t) = t := by
  obtain ⟨a, b, c, d, e, f, g, i, rfl⟩ := list8 h
  have ba := a.toNat_lt; have bb := b.toNat_lt; have bc := c.toNat_lt; have bd := d.toNat_lt
  have be := e.toNat_lt; have bf := f.toNat_lt; have bg := g.toNat_lt; have bi := i.toNat_lt
  rw [val8]
  have k : ∀ (m s : Nat) (u : UInt8), m / 2 ^ s % 256 = u.toNat → byteAt (m : Int) s = u := fun m s u h => UInt8.toNat_inj.1 ((byteAt_of m s).trans h)
  unfold be8
  rw [k _ 56 a, k _ 48 b, k _ 40 c, k _ 32 d, k _ 24 e, k _ 16 f, k _ 8 g, k _ 0 i]
  all_goals omega

def Inp.bytes (x : Inp) : List UInt8 := recL x.k x.code x.n x.ok x.t

theorem be8_len (n : Int) : (be8 n).length = 8 := rfl

theorem numI_be8 (k n : Int) (h0 : 0 ≤ n) (h1 : n ≤ 1152921504606846976) : numI k (be8 n) = .inr ⟨k, 0, n, false, []⟩ := by
  obtain ⟨m, rfl⟩ := Int.eq_ofNat_of_zero_le h0
  have hv := val_be8 m (by omega)
  unfold numI
  rw [if_neg (by rw [be8_len]; decide), if_neg (by simp [be8]), show (be8 (m : Int)).take 8 = be8 m from rfl, hv, Nat.min_eq_left (by omega)]

theorem chk_len0 {len : Int} {t : List UInt8} (h : ¬ len ≠ 0) (e : len = t.length) : t = [] := by
  cases t with
  | nil => rfl
  | cons a r => simp at e; omega

theorem readI_rec (x : Inp) (h : x.chk = 0) : readI x.bytes = .inr x := by
  obtain ⟨k, code, n, ok, t⟩ := x
  unfold Inp.chk at h
  unfold Inp.bytes
  dsimp only at h ⊢
  unfold chk at h
  by_cases h1 : k = 1
  · subst h1
    rw [if_pos rfl] at h
    split at h
    · cases h
    · rename_i hc
      obtain rfl : code = 0 := by omega
      obtain rfl : n = 0 := by omega
      obtain rfl : ok = false := by cases ok <;> simp_all
      rfl
  rw [if_neg h1] at h
  by_cases h2 : k = 2
  · subst h2
    rw [if_pos rfl] at h
    split at h
    · cases h
    · rename_i hc
      obtain rfl : code = 0 := by omega
      obtain rfl : ok = false := by cases ok <;> simp_all
      obtain rfl : t = [] := by cases t with
        | nil => rfl
        | cons a r => simp at hc; omega
      exact numI_be8 2 n (by omega) (by omega)
  rw [if_neg h2] at h
  by_cases h3 : k = 3
  · subst h3
    rw [if_pos rfl] at h
    split at h
    · cases h
    · rename_i hc
      obtain rfl : code = 0 := by omega
      obtain rfl : t = [] := by cases t with
        | nil => rfl
        | cons a r => simp at hc; omega
      obtain ⟨m, rfl⟩ := Int.eq_ofNat_of_zero_le (show 0 ≤ n by omega)
      have hv := val_be8 m (by omega)
      show replyI (be8 m ++ [if ok = true then 1 else 0]) = _
      unfold replyI
      rw [if_neg (by simp [be8_len])]
      rw [show (be8 (m : Int) ++ [if ok = true then (1 : UInt8) else 0]).drop 8 = [if ok = true then (1 : UInt8) else 0] from rfl, show (be8 (m : Int) ++ [if ok = true then (1 : UInt8) else 0]).take 8 = be8 m from rfl, hv, Nat.min_eq_left (by omega)]
      cases ok <;> rfl
  rw [if_neg h3] at h
  by_cases h4 : k = 4
  · subst h4
    rw [if_pos rfl] at h
    split at h
    · cases h
    · rename_i hc
      obtain rfl : code = 0 := by omega
      obtain rfl : ok = false := by cases ok <;> simp_all
      obtain rfl : t = [] := by cases t with
        | nil => rfl
        | cons a r => simp at hc; omega
      exact numI_be8 4 n (by omega) (by omega)
  rw [if_neg h4] at h
  by_cases h5 : k = 5
  · subst h5
    rw [if_pos rfl] at h
    split at h
    · cases h
    · rename_i hc
      obtain rfl : n = 0 := by omega
      obtain rfl : ok = false := by cases ok <;> simp_all
      obtain ⟨m, rfl⟩ := Int.eq_ofNat_of_zero_le (show 0 ≤ code by omega)
      show Sum.inr (Inp.mk 5 ((UInt8.ofNat (m : Int).toNat).toNat) 0 false t) = _
      have : (UInt8.ofNat (m : Int).toNat).toNat = m := by simp; omega
      rw [this]
  rw [if_neg h5] at h
  by_cases h6 : k = 6
  · subst h6
    rw [if_pos rfl] at h
    split at h
    · cases h
    · rename_i hc
      obtain rfl : code = 0 := by omega
      obtain rfl : n = 0 := by omega
      obtain rfl : ok = false := by cases ok <;> simp_all
      obtain rfl : t = [] := by cases t with
        | nil => rfl
        | cons a r => simp at hc; omega
      rfl
  rw [if_neg h6] at h
  cases h

theorem readL_rec (x : Inp) (h : x.chk = 0) : readL x.bytes = (x, 0) := by
  unfold readL; rw [readI_rec x h]; simp only [h, if_true]

theorem rec_len (x : Inp) (h : x.chk = 0) : x.bytes.length ≤ 4400 ∧ x.bytes ≠ [] := by
  obtain ⟨k, code, n, ok, t⟩ := x
  unfold Inp.chk at h
  unfold Inp.bytes
  dsimp only at h ⊢
  unfold chk at h
  unfold recL
  by_cases h1 : k = 1
  · rw [if_pos h1] at h ⊢
    split at h
    · cases h
    · split at h
      · cases h
      · simp; omega
  rw [if_neg h1] at h ⊢
  by_cases h2 : k = 2
  · rw [if_pos h2]; simp [be8_len]
  rw [if_neg h2] at h ⊢
  by_cases h3 : k = 3
  · rw [if_pos h3]; simp [be8_len]
  rw [if_neg h3] at h ⊢
  by_cases h4 : k = 4
  · rw [if_pos h4]; simp [be8_len]
  rw [if_neg h4] at h ⊢
  by_cases h5 : k = 5
  · rw [if_pos h5] at h ⊢
    split at h
    · cases h
    · split at h
      · cases h
      · simp; omega
  rw [if_neg h5]; simp

theorem num_back (k : Int) (r : List UInt8) (x : Inp) (hk : k = 2 ∨ k = 4) (h : numI k r = .inr x) (hc : x.chk = 0) : x.k = k ∧ be8 x.n = r := by
  unfold numI at h
  split at h
  · cases h
  rename_i h8
  split at h
  · cases h
  rename_i hd
  have hd' : r.drop 8 = [] := Decidable.byContradiction (fun c => hd c)
  have hl : r.length = 8 := by have := congrArg List.length hd'; simp at this; omega
  injection h with h
  subst h
  have ht : r.take 8 = r := List.take_of_length_le (by omega)
  rw [ht] at hc ⊢
  have hb : val r ≤ 9223372036854775807 := by
    unfold Inp.chk chk at hc
    rcases hk with rfl | rfl
    all_goals
      dsimp only at hc
      simp only [if_true, show ¬ ((4 : Int) = 1) from by decide, show ¬ ((4 : Int) = 2) from by decide, show ¬ ((4 : Int) = 3) from by decide, show ¬ ((2 : Int) = 1) from by decide, if_false] at hc
      split at hc
      · cases hc
      · rename_i hx; omega
  refine ⟨rfl, ?_⟩
  show be8 ((min (val r) 9223372036854775807 : Nat) : Int) = r
  rw [Nat.min_eq_left hb]
  exact be8_val r hl

theorem reply_back (r : List UInt8) (x : Inp) (h : replyI r = .inr x) (hc : x.chk = 0) : x.k = 3 ∧ be8 x.n ++ [if x.ok = true then 1 else 0] = r := by
  unfold replyI at h
  split at h
  · cases h
  rename_i h8
  split at h
  · cases h
  rename_i c t hd
  split at h
  · cases h
  rename_i h1
  split at h
  · cases h
  rename_i ht
  have ht' : t = [] := Decidable.byContradiction (fun c => ht c)
  subst ht'
  injection h with h
  subst h
  have hb : val (r.take 8) ≤ 9223372036854775807 := by
    unfold Inp.chk chk at hc
    dsimp only at hc
    simp only [if_true, show ¬ ((3 : Int) = 1) from by decide, show ¬ ((3 : Int) = 2) from by decide, if_false] at hc
    split at hc
    · cases hc
    · rename_i hx; omega
  refine ⟨rfl, ?_⟩
  show be8 ((min (val (r.take 8)) 9223372036854775807 : Nat) : Int) ++ [if (c == 1) = true then 1 else 0] = r
  rw [Nat.min_eq_left hb, be8_val _ (by simp; omega)]
  have e : [if (c == 1) = true then (1 : UInt8) else 0] = [c] := by
    have : c = 0 ∨ c = 1 := by
      rcases (show c.toNat = 0 ∨ c.toNat = 1 by omega) with h | h
      · exact .inl (byte_of h)
      · exact .inr (byte_of h)
    rcases this with rfl | rfl <;> rfl
  rw [e, ← hd, List.take_append_drop]

theorem rec_read (l : List UInt8) (x : Inp) (h : readI l = .inr x) (hc : x.chk = 0) : x.bytes = l := by
  unfold readI at h
  split at h
  · cases h
  rename_i c r
  split at h
  · rename_i e; subst e; injection h with h; subst h; rfl
  split at h
  · rename_i e; subst e
    obtain ⟨hk, hb⟩ := num_back 2 r x (.inl rfl) h hc
    unfold Inp.bytes recL; rw [hk, hb]; rfl
  split at h
  · rename_i e; subst e
    obtain ⟨hk, hb⟩ := reply_back r x h hc
    unfold Inp.bytes recL; rw [hk, hb]; rfl
  split at h
  · rename_i e; subst e
    obtain ⟨hk, hb⟩ := num_back 4 r x (.inr rfl) h hc
    unfold Inp.bytes recL; rw [hk, hb]; rfl
  split at h
  · rename_i e; subst e
    split at h
    · cases h
    · rename_i d t
      injection h with h; subst h
      show 5 :: UInt8.ofNat ((d.toNat : Int)).toNat :: t = 5 :: d :: t
      rw [show UInt8.ofNat ((d.toNat : Int)).toNat = d from by simp]
  split at h
  · rename_i e; subst e
    split at h
    · injection h with h; subst h; rfl
    · cases h
  · cases h

theorem readI_err (l : List UInt8) (n : Int) (h : readI l = .inl n) : n = 3 ∨ n = 5 ∨ n = 9 := by
  have hn : ∀ k r, numI k r = .inl n → n = 3 ∨ n = 5 ∨ n = 9 := fun k r h => by
    unfold numI at h
    split at h
    · injection h with h; omega
    split at h
    · injection h with h; omega
    · cases h
  unfold readI at h
  split at h
  · injection h with h; omega
  split at h
  · cases h
  split at h
  · exact hn _ _ h
  split at h
  · unfold replyI at h
    split at h
    · injection h with h; omega
    split at h
    · injection h with h; omega
    split at h
    · injection h with h; omega
    split at h
    · injection h with h; omega
    · cases h
  split at h
  · exact hn _ _ h
  split at h
  · split at h
    · injection h with h; omega
    · cases h
  split at h
  · split at h
    · cases h
    · injection h with h; omega
  · injection h with h; omega

theorem readL_cases (l : List UInt8) : (∃ n : Int, n ≠ 0 ∧ readL l = (Inp.zero, n)) ∨ (∃ x : Inp, readL l = (x, 0) ∧ x.chk = 0 ∧ x.bytes = l ∧ x.t.length ≤ l.length) := by
  unfold readL
  cases h : readI l with
  | inl n => exact .inl ⟨n, by have := readI_err l n h; omega, rfl⟩
  | inr x =>
    by_cases hc : x.chk = 0
    · exact .inr ⟨x, by simp [hc], hc, rec_read l x h hc, readI_len l h⟩
    · exact .inl ⟨x.chk, hc, by simp [hc]⟩
end Go.Proofs.Ytpcfcbaapnkanaa
