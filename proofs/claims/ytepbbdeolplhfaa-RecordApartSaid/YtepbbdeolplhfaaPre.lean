/-
  What is read from a proper prefix of a record; different inputs have different records.
-/
import Derived.Test.YtepbbdeolplhfaaMat
namespace Go.Proofs.Ytepbbdeolplhfaa
open Go.RowKit

theorem readL_inl (l : List UInt8) (n : Int) (h : readI l = .inl n) : readL l = (Inp.zero, n) := by unfold readL; rw [h]

theorem num_short (k : Int) (r : List UInt8) (h : r.length < 8) : numI k r = .inl 3 := by unfold numI; rw [if_pos h]

theorem bytes_inj (x y : Inp) (hx : x.chk = 0) (hy : y.chk = 0) (h : x.bytes = y.bytes) : x = y := by
  have a := readI_rec x hx
  rw [h, readI_rec y hy] at a
  injection a with a
  exact a.symm

theorem prefix_cases (x : Inp) (h : x.chk = 0) (j : Nat) (hj : j < x.bytes.length) :
    readL (x.bytes.take j) = (Inp.zero, 3) ∨ ((x.k = 1 ∨ x.k = 5) ∧ x.n = 0 ∧ x.ok = false ∧ ∃ m, m ≤ x.t.length ∧ readL (x.bytes.take j) = (⟨x.k, x.code, 0, false, x.t.take m⟩, 0)) := by
  cases j with
  | zero => exact .inl rfl
  | succ i =>
    obtain ⟨k, code, n, ok, t⟩ := x
    unfold Inp.chk at h
    unfold Inp.bytes at hj ⊢
    dsimp only at h hj ⊢
    unfold chk at h
    by_cases h1 : k = 1
    · subst h1
      rw [if_pos rfl] at h
      split at h
      · cases h
      split at h
      · cases h
      · rename_i hc hl
        obtain rfl : code = 0 := by omega
        obtain rfl : n = 0 := by omega
        obtain rfl : ok = false := by cases ok <;> simp_all
        have e : recL 1 0 0 false t = 1 :: t := rfl
        rw [e] at hj ⊢
        rw [List.take_succ_cons]
        have hl2 : ((t.take i).length : Int) ≤ 4096 := by
          have := List.length_take_le i t
          simp at *; omega
        refine .inr ⟨.inl rfl, rfl, rfl, i, by simp at hj; omega, ?_⟩
        have hr : readI (1 :: t.take i) = .inr ⟨1, 0, 0, false, t.take i⟩ := rfl
        have hc : (Inp.mk 1 0 0 false (t.take i)).chk = 0 := by
          unfold Inp.chk chk
          dsimp only
          rw [if_pos rfl, if_neg (by simp), if_neg (by omega)]
        unfold readL
        rw [hr]
        simp only [hc, if_true]
    rw [if_neg h1] at h
    by_cases h2 : k = 2
    · subst h2
      have e : recL 2 code n ok t = 2 :: be8 n := rfl
      rw [e] at hj ⊢
      rw [List.take_succ_cons]
      refine .inl (readL_inl _ _ ?_)
      exact num_short 2 _ (by simp [be8_len] at hj ⊢; omega)
    rw [if_neg h2] at h
    by_cases h3 : k = 3
    · subst h3
      have e : recL 3 code n ok t = 3 :: (be8 n ++ [if ok = true then 1 else 0]) := rfl
      rw [e] at hj ⊢
      rw [List.take_succ_cons]
      refine .inl (readL_inl _ _ ?_)
      show replyI ((be8 n ++ [if ok = true then 1 else 0]).take i) = .inl 3
      have hi : i < 9 := by simp [be8_len] at hj; omega
      unfold replyI
      by_cases h8 : i < 8
      · rw [if_pos (by simp [be8_len]; omega)]
      · obtain rfl : i = 8 := by omega
        rw [show (be8 n ++ [if ok = true then (1 : UInt8) else 0]).take 8 = be8 n from rfl, if_neg (by rw [be8_len]; decide), show (be8 n).drop 8 = [] from rfl]
    rw [if_neg h3] at h
    by_cases h4 : k = 4
    · subst h4
      have e : recL 4 code n ok t = 4 :: be8 n := rfl
      rw [e] at hj ⊢
      rw [List.take_succ_cons]
      refine .inl (readL_inl _ _ ?_)
      exact num_short 4 _ (by simp [be8_len] at hj ⊢; omega)
    rw [if_neg h4] at h
    by_cases h5 : k = 5
    · subst h5
      rw [if_pos rfl] at h
      split at h
      · cases h
      split at h
      · cases h
      · rename_i hc hl
        obtain rfl : n = 0 := by omega
        obtain rfl : ok = false := by cases ok <;> simp_all
        have e : recL 5 code 0 false t = 5 :: UInt8.ofNat code.toNat :: t := rfl
        rw [e] at hj ⊢
        rw [List.take_succ_cons]
        cases i with
        | zero => exact .inl rfl
        | succ q =>
          rw [List.take_succ_cons]
          have hl2 : ((t.take q).length : Int) ≤ 300 := by
            have := List.length_take_le q t
            simp at *; omega
          have hcc : ((UInt8.ofNat code.toNat).toNat : Int) = code := by
            obtain ⟨m, rfl⟩ := Int.eq_ofNat_of_zero_le (show 0 ≤ code by omega)
            simp; omega
          refine .inr ⟨.inr rfl, rfl, rfl, q, by simp at hj; omega, ?_⟩
          have hr : readI (5 :: UInt8.ofNat code.toNat :: t.take q) = .inr ⟨5, (UInt8.ofNat code.toNat).toNat, 0, false, t.take q⟩ := rfl
          have hk : (Inp.mk 5 code 0 false (t.take q)).chk = 0 := by
            unfold Inp.chk chk
            dsimp only
            rw [if_neg (by decide), if_neg (by decide), if_neg (by decide), if_neg (by decide), if_pos rfl, if_neg (by simp; omega), if_neg (by omega)]
          unfold readL
          rw [hr, hcc]
          simp only [hk, if_true]
    rw [if_neg h5] at h
    by_cases h6 : k = 6
    · subst h6
      have e : recL 6 code n ok t = [6] := rfl
      rw [e] at hj
      simp at hj
    · rw [if_neg h6] at h; cases h
end Go.Proofs.Ytepbbdeolplhfaa
