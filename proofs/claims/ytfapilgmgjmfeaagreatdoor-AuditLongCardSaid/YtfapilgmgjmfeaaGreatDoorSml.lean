/-
  The small functions of package audit, and of what the laws share.
-/
import Derived.Test.YtfapilgmgjmfeaaGreatDoorEqs
namespace Go.Proofs.YtfapilgmgjmfeaaGreatDoor
open Go.RowKit

theorem S_nil : S [] = (⟨#[]⟩ : ByteArray) := rfl
set_option maxHeartbeats 1000000 in
theorem ofTx_any (k : Int) (w : World) : Calls Tryz.prog 29 #[.int .i64 k] w (fun e w' => e = .returned (.bool (ofTx k)) ∧ w' = w) := by
  unfold ofTx
  by_cases h1 : 3 ≤ k <;> by_cases h2 : k ≤ 8
  all_goals
    go_enter Tryz.func29, Tryz.ntmps29
    go_wp2
    go_ret
    exact ⟨by simp [h1, h2], rfl⟩
set_option maxHeartbeats 1000000 in
theorem isAct_any (k : Int) (w : World) : Calls Tryz.prog 77 #[.int .i64 k] w (fun e w' => e = .returned (.bool (isAct k)) ∧ w' = w) := by
  unfold isAct
  by_cases h1 : 1 ≤ k <;> by_cases h2 : k ≤ 4
  all_goals
    go_enter Tryz.func77, Tryz.ntmps77
    go_wp2
    go_ret
    exact ⟨by simp [h1, h2], rfl⟩
set_option maxHeartbeats 4000000 in
set_option maxRecDepth 100000 in
theorem stands_any (n : Nt) (w : World) : Calls Tryz.prog 58 #[.agg (ntC n)] w (Ret (.bool (standsB n)) w) := by
  obtain ⟨k, t, ⟨ak, r, s, c, d⟩, co, x⟩ := n
  have e1 := fun w => eql_note ⟨1, t, ⟨ak, r, s, c, d⟩, 0, x⟩ ⟨1, 0, Act.zero, 0, []⟩ w
  have e2 := fun w => eql_note ⟨2, t, ⟨ak, r, s, c, d⟩, 0, []⟩ ⟨2, 0, Act.zero, 0, []⟩ w
  have e3 := fun w => eql_note ⟨9, t, ⟨ak, r, s, c, d⟩, co, x⟩ ⟨9, 0, Act.zero, 0, []⟩ w
  have hR : standsB ⟨k, t, ⟨ak, r, s, c, d⟩, co, x⟩ = standsB ⟨k, t, ⟨ak, r, s, c, d⟩, co, x⟩ := rfl
  generalize hRR : standsB ⟨k, t, ⟨ak, r, s, c, d⟩, co, x⟩ = R at *
  unfold standsB at hRR
  simp only at hRR
  generalize decide ((⟨1, t, ⟨ak, r, s, c, d⟩, 0, x⟩ : Nt) = ⟨1, 0, Act.zero, 0, []⟩) = D1 at *
  generalize decide ((⟨2, t, ⟨ak, r, s, c, d⟩, 0, []⟩ : Nt) = ⟨2, 0, Act.zero, 0, []⟩) = D2 at *
  generalize hD3 : decide ((⟨9, t, ⟨ak, r, s, c, d⟩, co, x⟩ : Nt) = ⟨9, 0, Act.zero, 0, []⟩) = D3 at *
  have HRR := Lib.hid hRR
  have HD3 := Lib.hid hD3
  simp only [ntC, Act.zero, S_nil] at e1 e2 e3
  have K1 := Lib.hid ((Keeps.refl w).alloc (.cells (ntC ⟨k, t, ⟨ak, r, s, c, d⟩, co, x⟩) 29))
  unfold ntC at K1
  simp only at K1
  clear hR hRR hD3
  unfold ntC
  simp only
  by_cases h1 : k = 1
  · subst h1
    go_enter Tryz.func58, Tryz.ntmps58
    go_wp2
    go_ret
    exact ⟨by rw [← HRR.out]; rfl, (Keeps.refl w).alloc _⟩
  · have f1 : (k == 1) = false := by simpa using h1
    by_cases h2 : k = 2
    · subst h2
      go_enter Tryz.func58, Tryz.ntmps58
      go_wp2
      go_ret
      exact ⟨by rw [← HRR.out]; rfl, (Keeps.refl w).alloc _⟩
    · have f2 : (k == 2) = false := by simpa using h2
      by_cases h3 : k = 9
      · subst h3
        go_enter Tryz.func58, Tryz.ntmps58
        go_wp2
        go_ret
        refine ⟨by rw [← HRR.out, ← HD3.out]; rfl, K1.out⟩
      · have f3 : (k == 9) = false := by simpa using h3
        have HR2 : Hid (R = false) := Lib.hid (by rw [← HRR.out, if_neg h1, if_neg h2, if_neg h3])
        go_enter Tryz.func58, Tryz.ntmps58
        go_wp2
        go_ret
        exact ⟨by rw [HR2.out]; rfl, K1.out⟩
end Go.Proofs.YtfapilgmgjmfeaaGreatDoor
