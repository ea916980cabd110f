/-
  The contracts of the statements' own Times, and of Take of package record.
-/
import Derived.Test.YtepbbdeolplhfaaDoorBase
namespace Go.Proofs.YtepbbdeolplhfaaDoor
open Go.RowKit

theorem half (t k : Nat) : (t + t) * (k / 2) + (if k % 2 = 1 then t else 0) = t * k := by
  have h := Nat.div_add_mod k 2
  have e1 : (t + t) * (k / 2) = 2 * (t * (k / 2)) := by rw [Nat.add_mul]; omega
  have e2 : t * (2 * (k / 2)) = 2 * (t * (k / 2)) := Nat.mul_left_comm _ _ _
  rcases Nat.mod_two_eq_zero_or_one k with h0 | h0
  · rw [if_neg (by omega), e1]
    conv => rhs; rw [← h, h0]
    rw [Nat.add_zero, Nat.add_zero, e2]
  · rw [if_pos h0, e1]
    conv => rhs; rw [← h, h0]
    rw [Nat.mul_add, e2, Nat.mul_one]

/-- What holds in the loop of Times: so many bytes in all. -/
def TimRel (N : Nat) (o t : ByteArray) (k : Nat) : Prop := o.size + t.size * k = N
def RetL (n : Nat) (w : World) (e : Ending) (w' : World) : Prop := ∃ t : ByteArray, e = .returned (.string t) ∧ t.size = n ∧ w = w'

theorem TimRel.le {N : Nat} {o t : ByteArray} {k : Nat} (h : TimRel N o t k) (hk : 1 ≤ k) : o.size ≤ N ∧ t.size ≤ N := by
  unfold TimRel at h
  have : t.size ≤ t.size * k := Nat.le_mul_of_pos_right _ hk
  omega
theorem TimRel.odd {N : Nat} {o t : ByteArray} {k : Nat} (h : TimRel N o t k) (hk : k % 2 = 1) : TimRel N (o ++ t) (t ++ t) (k / 2) := by
  unfold TimRel at h ⊢
  have := half t.size k
  rw [if_pos hk] at this
  rw [ByteArray.size_append, ByteArray.size_append]; omega
theorem TimRel.even {N : Nat} {o t : ByteArray} {k : Nat} (h : TimRel N o t k) (hk : k % 2 = 0) : TimRel N o (t ++ t) (k / 2) := by
  unfold TimRel at h ⊢
  have := half t.size k
  rw [if_neg (by omega)] at this
  rw [ByteArray.size_append]; omega

set_option maxHeartbeats 4000000 in
theorem times_any (s : ByteArray) (n : Nat) (w : World) (h : s.size * n ≤ 100000) (_hs : s.size ≤ 100000) (hn : n ≤ 100000) : Calls Tryd.prog 8 #[.string s, .int .i64 n] w (RetL (s.size * n) w) := by
  have HR : Hid (TimRel (s.size * n) ByteArray.empty s n) := by show TimRel _ _ _ _; unfold TimRel; simp
  generalize s.size * n = N at h HR ⊢
  have hE : (⟨#[]⟩ : ByteArray) = ByteArray.empty := rfl
  have HN := Lib.hid hE
  clear hE
  go_enter Tryd.func8, Tryd.ntmps8
  go_wp2
  go_loop [0, 1, 5] (fun s n o => ∃ (t r : ByteArray) (k : Nat), s = .string t ∧ n = .int .i64 k ∧ o = .string r ∧ k ≤ 100000 ∧ Hid (TimRel N r t k)) (fun _ n _ => (intOf n).toNat)
  case atStart => exact ⟨_, _, n, rfl, rfl, rfl, hn, HR⟩
  case round =>
    obtain ⟨t, r, k, rfl, rfl, rfl, hk, hr⟩ := hrel
    by_cases hlt : 1 ≤ k
    · obtain ⟨g1, g2⟩ := hr.out.le hlt
      have hw : IntKind.i64.wrap ((k : Int).tmod 2) = (k : Int) % 2 := by rw [Int.tmod_eq_emod_of_nonneg (by omega)]; exact IntWalk.i64_in _ (by omega)
      rcases Nat.mod_two_eq_zero_or_one k with h2 | h2
      · have h2' : ((k : Int) % 2 == 1) = false := by simp; omega
        have H := Lib.hid (hr.out.even h2)
        clear h2
        go_wp2
        go_round
        case rel => exact ⟨_, _, k / 2, rfl, by simp, rfl, by omega, H⟩
        case measure => simp [intOf]; omega
      · have h2' : ((k : Int) % 2 == 1) = true := by simp; omega
        have H := Lib.hid (hr.out.odd h2)
        clear h2
        go_wp2
        go_round
        case rel => exact ⟨_, _, k / 2, rfl, by simp, rfl, by omega, H⟩
        case measure => simp [intOf]; omega
    · obtain rfl : k = 0 := by omega
      go_wp2
      go_ret
      exact ⟨_, rfl, by have := hr.out; unfold TimRel at this; omega, rfl⟩

def inV' (kind code n : Int) (ok : Bool) (text : ByteArray) : Value := .agg #[.int .i64 kind, .int .i64 code, .int .i64 n, .bool ok, .string text]
set_option maxHeartbeats 1000000 in
theorem take_short (s : ByteArray) (w : World) (h : s.size ≤ 4096) : Calls Tryd.prog 7 #[.string s] w (fun e w' => e = .returned (inV' 1 0 0 false s) ∧ Keeps w w') := by
  go_enter Tryd.func7, Tryd.ntmps7
  go_wp2
  exact bodyPost_ret (v := inV' 1 0 0 false s) (by simp [results, Tryd.results7, go_sem, inV']) rfl ⟨rfl, by repeat (first | exact Keeps.refl _ | refine Keeps.alloc ?_ _)⟩
set_option maxHeartbeats 1000000 in
theorem take_long (s : ByteArray) (w : World) (h : 4096 < s.size) (hm : s.size ≤ 100000) : Calls Tryd.prog 7 #[.string s] w (fun e w' => e = .returned (inV' 2 0 s.size false ⟨#[]⟩) ∧ Keeps w w') := by
  go_enter Tryd.func7, Tryd.ntmps7
  go_wp2
  exact bodyPost_ret (v := inV' 2 0 s.size false ⟨#[]⟩) (by simp [results, Tryd.results7, go_sem, inV']) rfl ⟨rfl, by repeat (first | exact Keeps.refl _ | refine Keeps.alloc ?_ _)⟩
end Go.Proofs.YtepbbdeolplhfaaDoor
