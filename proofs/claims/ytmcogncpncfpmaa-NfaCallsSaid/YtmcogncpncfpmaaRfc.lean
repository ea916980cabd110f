/-
  The contracts of the document's own automaton: whether bytes are the same, Start, Accepts.
-/
import Derived.Test.YtmcogncpncfpmaaRfb
namespace Go.Proofs.Ytmcogncpncfpmaa
open Go.RowKit

def sameB (fo : Bool) (a b : UInt8) : Bool := (a == b) || (fo && (lowC a == lowC b))
theorem S_ne (a b : UInt8) (h : a ≠ b) : ((S [a]).toList == (S [b]).toList) = false := by
  rw [ByteArray.toList_eq, ByteArray.toList_eq]
  simp [S, h]
theorem S_self (a : UInt8) : ((S [a]).toList == (S [a]).toList) = true := by simp

set_option maxHeartbeats 1000000 in
theorem same34_any (P : Nat) (fo : Bool) (a b : UInt8) (w : World) (h1 : w.cell? ⟨P, 1, none⟩ = some (.bool fo)) : Calls Try.prog 34 #[.pointer (some ⟨P, 0, none⟩), .int .u8 a.toNat, .int .u8 b.toNat] w (RetQ (sameB fo a b) w) := by
  have cF := Lib.hid (fun (c : UInt8) (w1 : World) => rfold_any (S [c]) w1 (by unfold maxLen; rw [S_size]; simp))
  have hca : ∀ (W : World) (B : Nat), W.cell? ⟨B, 0, none⟩ = some (.int .u8 a.toNat) → (convert 58 9 (.slice (some ⟨B, 0, none⟩) 1 1)).run Try.prog W = .ok (.string (S [a])) W := fun W B h =>
    run_convert_bytes_back (P := Try.prog) W 58 9 5 ⟨B, 0, none⟩ 1 [a] Try.underlying58 Try.underlying5 Try.underlying9 (fun j hj => by
      obtain rfl : j = 0 := by simpa using hj
      rw [add_zero, h]; rfl)
  have hcb : ∀ (W : World) (B : Nat), W.cell? ⟨B, 0, none⟩ = some (.int .u8 b.toNat) → (convert 58 9 (.slice (some ⟨B, 0, none⟩) 1 1)).run Try.prog W = .ok (.string (S [b])) W := fun W B h =>
    run_convert_bytes_back (P := Try.prog) W 58 9 5 ⟨B, 0, none⟩ 1 [b] Try.underlying58 Try.underlying5 Try.underlying9 (fun j hj => by
      obtain rfl : j = 0 := by simpa using hj
      rw [add_zero, h]; rfl)
  unfold sameB
  have e3 : ∀ c : UInt8, lowL (S [c]).data.toList = [lowC c] := fun c => rfl
  by_cases hab : a = b
  · subst hab
    rw [show (a == a) = true by simp, Bool.true_or]
    go_enter Try.func34, Try.ntmps34
    go_wp2_with fail
    go_region_with fail
    all_goals go_wp2
    all_goals go_ret
    all_goals exact RetQ.of rfl (((Keeps.drew (Keeps.refl _)).alloc _).alloc _)
  · have h0 := S_ne a b hab
    rw [show (a == b) = false by simp [hab], Bool.false_or]
    have hP : P < w.heap.size := World.block_lt_of_cell? _ _ h1
    have f1 : ∀ o : Obj, (w.drew.alloc o).cell? ⟨P, 1, none⟩ = some (.bool fo) := fun o => (World.cell?_alloc_lt _ _ _ hP).trans h1
    have f2 : ∀ o o' : Obj, ((w.drew.alloc o).alloc o').cell? ⟨P, 1, none⟩ = some (.bool fo) := fun o o' => (World.cell?_alloc_lt _ _ _ (by simp; omega)).trans (f1 o)
    cases fo
    · rw [Bool.false_and]
      go_enter Try.func34, Try.ntmps34
      go_wp2_with fail
      go_region_with fail
      all_goals go_wp2
      all_goals go_ret
      all_goals exact RetQ.of rfl (((Keeps.drew (Keeps.refl _)).alloc _).alloc _)
    · rw [Bool.true_and]
      have cA := Lib.hid (fun (w1 : World) => cF.out a w1)
      have cB := Lib.hid (fun (w1 : World) => cF.out b w1)
      simp only [e3] at cA cB
      by_cases hlow : lowC a = lowC b
      · rw [show (lowC a == lowC b) = true by simp [hlow]]
        rw [hlow] at cA
        go_enter Try.func34, Try.ntmps34
        go_wp2_with fail
        go_region_with fail
        all_goals go_wp2_with fail
        all_goals refine (cA.out _).mono ?_
        all_goals rintro e w2 ⟨rfl, k2⟩
        all_goals go_wp2_with fail
        all_goals refine (cB.out _).mono ?_
        all_goals rintro e w3 ⟨rfl, k3⟩
        all_goals go_wp2
        all_goals go_ret
        all_goals exact RetQ.of rfl (Keeps.trans (((Keeps.drew (Keeps.refl _)).alloc _).alloc _) (Keeps.trans k2 k3))
      · have h0' := S_ne (lowC a) (lowC b) hlow
        rw [show (lowC a == lowC b) = false by simp [hlow]]
        go_enter Try.func34, Try.ntmps34
        go_wp2_with fail
        go_region_with fail
        all_goals go_wp2_with fail
        all_goals refine (cA.out _).mono ?_
        all_goals rintro e w2 ⟨rfl, k2⟩
        all_goals go_wp2_with fail
        all_goals refine (cB.out _).mono ?_
        all_goals rintro e w3 ⟨rfl, k3⟩
        all_goals go_wp2
        all_goals go_ret
        all_goals exact RetQ.of rfl (Keeps.trans (((Keeps.drew (Keeps.refl _)).alloc _).alloc _) (Keeps.trans k2 k3))
end Go.Proofs.Ytmcogncpncfpmaa
