/-
  The document's own bare.
-/
import Derived.Test.YtfapilgmgjmfeaaGreatDoorApe
import Derived.Test.YtfapilgmgjmfeaaGreatDoorQk
namespace Go.Proofs.YtfapilgmgjmfeaaGreatDoor
open Go.RowKit

set_option maxHeartbeats 4000000 in
set_option maxRecDepth 100000 in
theorem bare_any (n : Nt) (w : World) : Calls Tryz.prog 37 #[.agg (ntC n)] w (Ret (.bool (bareB n)) w) := by
  have p1 := fun w => eql_note n ⟨n.kind, 0, Act.zero, n.code, []⟩ w
  have p2 := fun w => eql_note n ⟨n.kind, 0, Act.zero, n.code, n.text⟩ w
  have p3 := fun w => eql_note n ⟨n.kind, 0, Act.zero, 0, []⟩ w
  have p4 := fun w => eql_note n ⟨n.kind, n.txn, n.act, 0, []⟩ w
  have hR : bareB n = bareB n := rfl
  generalize hRR : bareB n = R at *
  unfold bareB at hRR
  generalize decide (n = ⟨n.kind, 0, Act.zero, n.code, []⟩) = D1 at *
  generalize decide (n = ⟨n.kind, 0, Act.zero, n.code, n.text⟩) = D2 at *
  generalize decide (n = ⟨n.kind, 0, Act.zero, 0, []⟩) = D3 at *
  generalize decide (n = ⟨n.kind, n.txn, n.act, 0, []⟩) = D4 at *
  simp only [ntC, Act.zero, S_nil] at p1 p2 p3 p4
  have K0 := Lib.hid ((Keeps.refl w).alloc (.cells (ntC n) 29))
  have B0 := Lib.hid (NtB.new w n)
  clear hR
  by_cases h1 : n.kind = 1
  · rw [if_pos h1] at hRR
    have f1 : (n.kind == 1) = true := by simpa using h1
    subst hRR
    clear h1 p2 p3 p4
    generalize hW : w.alloc (.cells (ntC n) 29) = W at *
    obtain ⟨e0, e1, e2, e3, e4, e5, e6, e7, e8⟩ := B0.out.cells
    unfold ntC at hW ⊢
    go_enter Tryz.func37, Tryz.ntmps37
    go_wp2
    go_ret
    exact ⟨rfl, K0.out⟩
  · have f1 : (n.kind == 1) = false := by simpa using h1
    rw [if_neg h1] at hRR
    by_cases h2 : n.kind = 2
    · rw [if_pos h2] at hRR
      have f2 : (n.kind == 2) = true := by simpa using h2
      subst hRR
      clear h1 h2 p1 p3 p4
      generalize hW : w.alloc (.cells (ntC n) 29) = W at *
      obtain ⟨e0, e1, e2, e3, e4, e5, e6, e7, e8⟩ := B0.out.cells
      unfold ntC at hW ⊢
      go_enter Tryz.func37, Tryz.ntmps37
      go_wp2
      go_ret
      exact ⟨rfl, K0.out⟩
    · have f2 : (n.kind == 2) = false := by simpa using h2
      rw [if_neg h2] at hRR
      by_cases h9 : n.kind = 9
      · rw [if_pos h9] at hRR
        have f9 : (n.kind == 9) = true := by simpa using h9
        subst hRR
        clear h1 h2 h9 p1 p2 p4
        generalize hW : w.alloc (.cells (ntC n) 29) = W at *
        obtain ⟨e0, e1, e2, e3, e4, e5, e6, e7, e8⟩ := B0.out.cells
        unfold ntC at hW ⊢
        go_enter Tryz.func37, Tryz.ntmps37
        go_wp2
        go_ret
        exact ⟨rfl, K0.out⟩
      · have f9 : (n.kind == 9) = false := by simpa using h9
        rw [if_neg h9] at hRR
        subst hRR
        clear h1 h2 h9 p1 p2 p3
        generalize hW : w.alloc (.cells (ntC n) 29) = W at *
        obtain ⟨e0, e1, e2, e3, e4, e5, e6, e7, e8⟩ := B0.out.cells
        unfold ntC at hW ⊢
        go_enter Tryz.func37, Tryz.ntmps37
        go_wp2
        go_ret
        exact ⟨rfl, K0.out⟩
end Go.Proofs.YtfapilgmgjmfeaaGreatDoor
