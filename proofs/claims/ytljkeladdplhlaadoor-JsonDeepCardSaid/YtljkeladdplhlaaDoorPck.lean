/-
  The contract of Pick: a number modulo another one, from 0 on.
-/
import Derived.Test.YtljkeladdplhlaaDoorJpu
namespace Go.Proofs.YtljkeladdplhlaaDoor
open Go.RowKit

theorem tmod_cases (c m : Int) (hm : 1 ≤ m) : (c.tmod m = c % m ∧ 0 ≤ c.tmod m) ∨ (c.tmod m = c % m - m ∧ c.tmod m < 0) := by
  have h0 := Int.emod_nonneg c (show m ≠ 0 by omega)
  have h1 := Int.emod_lt_of_pos c (show 0 < m by omega)
  have h := Int.tmod_eq_emod (a := c) (b := m)
  by_cases hc : 0 ≤ c ∨ m ∣ c
  · rw [if_pos hc] at h; left; omega
  · rw [if_neg hc] at h; right; omega

set_option maxHeartbeats 1000000 in
theorem pick_any (c m : Int) (w : World) (hm : 1 ≤ m) (hm2 : m ≤ 1000000) : Calls Tryd.prog 24 #[.int .i64 c, .int .i64 m] w (fun e w' => e = .returned (.int .i64 (c % m)) ∧ w' = w) := by
  have h0 := Int.emod_nonneg c (show m ≠ 0 by omega)
  have h1 := Int.emod_lt_of_pos c (show 0 < m by omega)
  have f1 : decide (m < 1) = false := by simp; omega
  have f2 : (m == 0) = false := by simp; omega
  rcases tmod_cases c m hm with ⟨e, hz⟩ | ⟨e, hz⟩
  · generalize c % m = r at *
    clear hz
    go_enter Tryd.func24, Tryd.ntmps24
    go_wp2
    go_ret
    exact ⟨rfl, rfl⟩
  · generalize c % m = r at *
    rw [e] at hz
    obtain ⟨t, rfl⟩ : ∃ t, r = t + m := ⟨r - m, by omega⟩
    rw [show t + m - m = t by omega] at e hz
    have b1 : -1000000 ≤ t := by omega
    have b2 : (0 : Int) ≤ m := by omega
    clear h0 h1
    go_enter Tryd.func24, Tryd.ntmps24
    go_wp2
    go_ret
    exact ⟨by rw [show t + m = t + m from rfl]; first | rfl | (congr 2; omega), rfl⟩
end Go.Proofs.YtljkeladdplhlaaDoor
