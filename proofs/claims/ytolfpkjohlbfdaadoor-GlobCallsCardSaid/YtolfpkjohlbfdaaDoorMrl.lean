/-
  What holds in the loop of a glob's match, and how it goes on.
-/
import Derived.Test.YtolfpkjohlbfdaaDoorMat
namespace Go.Proofs.YtolfpkjohlbfdaaDoor

theorem drop_at (l : List UInt8) (k : Nat) (h : k < l.length) : l.drop k = l.getD k 0 :: l.drop (k + 1) := by
  rw [List.drop_eq_getElem_cons h]; simp [h]
theorem is42 (c : UInt8) (h : c.toNat = 42) : c = 42 := by
  apply UInt8.toNat_inj.1; rw [h]; rfl
/-- The loop's relation: no star so far; or the last star, and the segment behind it. -/
def NoStar (eq : UInt8 → UInt8 → Bool) (p t : List UInt8) (a i : Nat) : Prop := mt eq p t = mt eq (p.drop a) (t.drop i)
def Star (eq : UInt8 → UInt8 → Bool) (p t : List UInt8) (a i s k : Nat) : Prop := k ≤ i ∧ mt eq p t = mt eq (42 :: p.drop s) (t.drop k) ∧ ∃ ps cs, p.drop s = ps ++ p.drop a ∧ t.drop k = cs ++ t.drop i ∧ seg eq ps cs = true
variable {eq : UInt8 → UInt8 → Bool} {p t : List UInt8} {a i s k : Nat}
theorem NoStar.start : NoStar eq p t 0 0 := by unfold NoStar; rw [List.drop_zero, List.drop_zero]
theorem NoStar.star (h : NoStar eq p t a i) (ha : a < p.length) (h42 : (p.getD a 0).toNat = 42) : Star eq p t (a + 1) i (a + 1) i := by
  refine ⟨Nat.le_refl _, ?_, [], [], rfl, rfl, rfl⟩
  unfold NoStar at h
  rw [h, drop_at p a ha, is42 _ h42]
theorem Star.star (h : Star eq p t a i s k) (ha : a < p.length) (h42 : (p.getD a 0).toNat = 42) : Star eq p t (a + 1) i (a + 1) i := by
  obtain ⟨_, h1, ps, cs, h2, h3, h4⟩ := h
  refine ⟨Nat.le_refl _, ?_, [], [], rfl, rfl, rfl⟩
  rw [h1, h2, h3, drop_at p a ha, is42 _ h42]
  exact star_next eq 42 42 ps cs _ _ rfl rfl h4
theorem NoStar.on (h : NoStar eq p t a i) (ha : a < p.length) (hi : i < t.length) (ho : one eq (p.getD a 0) (t.getD i 0) = true) : NoStar eq p t (a + 1) (i + 1) := by
  unfold NoStar at h ⊢
  rw [h, drop_at p a ha, drop_at t i hi, mt_one _ _ _ _ _ ho]
theorem Star.on (h : Star eq p t a i s k) (ha : a < p.length) (hi : i < t.length) (ho : one eq (p.getD a 0) (t.getD i 0) = true) : Star eq p t (a + 1) (i + 1) s k := by
  obtain ⟨h0, h1, ps, cs, h2, h3, h4⟩ := h
  refine ⟨by omega, h1, ps ++ [p.getD a 0], cs ++ [t.getD i 0], ?_, ?_, seg_snoc eq ps cs _ _ h4 ho⟩
  · rw [h2, drop_at p a ha]; simp
  · rw [h3, drop_at t i hi]; simp
/-- There is no way on. -/
def Miss (eq : UInt8 → UInt8 → Bool) (p t : List UInt8) (a i : Nat) : Prop := mt eq (p.drop a) (t.drop i) = false
theorem miss_end (ha : p.length ≤ a) (hi : i < t.length) : Miss eq p t a i := by
  unfold Miss; rw [List.drop_of_length_le ha, drop_at t i hi, mt_nil]; rfl
theorem miss_none (ha : a < p.length) (hi : i < t.length) (h42 : (p.getD a 0).toNat ≠ 42) (ho : one eq (p.getD a 0) (t.getD i 0) = false) : Miss eq p t a i := by
  unfold Miss; rw [drop_at p a ha, drop_at t i hi, mt_none _ _ _ _ _ h42 ho]
theorem NoStar.no (h : NoStar eq p t a i) (hm : Miss eq p t a i) : mt eq p t = false := Eq.trans h hm
theorem Star.back (h : Star eq p t a i s k) (hi : i < t.length) (hm : Miss eq p t a i) : Star eq p t s (k + 1) s (k + 1) := by
  obtain ⟨h0, h1, ps, cs, h2, h3, h4⟩ := h
  refine ⟨Nat.le_refl _, ?_, [], [], rfl, rfl, rfl⟩
  have e := drop_at t k (by omega)
  rw [h1, h2, h3]
  exact star_miss eq 42 ps cs _ _ _ _ rfl h4 hm (h3.symm.trans e)
theorem NoStar.last (h : NoStar eq p t a t.length) : mt eq p t = (p.drop a).all (fun x => x.toNat == 42) := by
  unfold NoStar at h; rw [h, List.drop_of_length_le (Nat.le_refl _), mt_only]
theorem Star.last (h : Star eq p t a t.length s k) : mt eq p t = (p.drop a).all (fun x => x.toNat == 42) := by
  obtain ⟨_, h1, ps, cs, h2, h3, h4⟩ := h
  rw [List.drop_of_length_le (Nat.le_refl _), List.append_nil] at h3
  rw [h1, h2, h3, star_end eq 42 ps cs _ rfl h4, mt_only]
theorem meas_on (T P k k' a a' : Nat) (h1 : k ≤ k') (h2 : a < a') (h3 : a' ≤ P) : (T + 1 - k') * (P + 2) + (P + 1 - a') < (T + 1 - k) * (P + 2) + (P + 1 - a) := by
  have := Nat.mul_le_mul_right (P + 2) (show T + 1 - k' ≤ T + 1 - k by omega)
  omega
theorem meas_back (T P k a a' : Nat) (h1 : k < T) : (T + 1 - (k + 1)) * (P + 2) + (P + 1 - a') < (T + 1 - k) * (P + 2) + (P + 1 - a) := by
  have e : T + 1 - k = (T + 1 - (k + 1)) + 1 := by omega
  rw [e, Nat.succ_mul]
  omega
end Go.Proofs.YtolfpkjohlbfdaaDoor
