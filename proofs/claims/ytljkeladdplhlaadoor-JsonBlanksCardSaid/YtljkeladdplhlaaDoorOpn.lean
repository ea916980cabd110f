/-
  An argument that is a slice of whole numbers, opened.
-/
import Derived.Test.YtljkeladdplhlaaDoorBks
import Derived.ProofKit
import Derived.OpenShut
namespace Go.Proofs.YtljkeladdplhlaaDoor
open Go.ChangeShapes Go.WideShapes Go.ChangeAt Go.RowKit

theorem cells3 : Tryd.prog.cellsOf 3 = 1 := by kernel_rfl

set_option maxRecDepth 100000 in
theorem open_il {H : Type} {enc : TypeId × Value → H} {W : World} {base b0 : Nat} {r : Reach} {v : Value} {d : DataW H} {ps : List MemPlace} (hv : Value.okWide Tryd.prog W r b0 40 v) (h : DataW.Trod enc Tryd.prog W base (fun _ => true) true 40 v d ps) :
    ∃ A zs c, v = .slice A (List.length zs) c ∧ zs.length ≤ maxLen ∧ IntsAt W A zs ∧ (zs = [] ∨ A ≠ none) := by
  obtain ⟨a0, len0, cap0, rfl⟩ := okWide_slice Tryd.underlying40 hv
  obtain ⟨fuel, hf⟩ := h
  rcases open_ints Tryd.underlying40 Tryd.underlying3 cells3 hf with ⟨hcs, _⟩ | ⟨a, len, cap, zs, hcs, _, hl, hm, hz, _, hcell, _⟩
  · simp [Value.cells] at hcs
    obtain ⟨rfl, rfl, rfl⟩ := hcs
    exact ⟨none, [], 0, rfl, by simp, IntsAt.nil _ _, .inl rfl⟩
  · simp [Value.cells] at hcs
    obtain ⟨rfl, rfl, rfl⟩ := hcs
    simp only [if_true] at hz
    refine ⟨some a, zs.take len0, cap0, by rw [List.length_take, hz, Nat.min_eq_left hl], by rw [List.length_take]; omega, fun k hk => ⟨a, rfl, ?_⟩, .inr (by simp)⟩
    rw [List.length_take] at hk
    rw [hcell k (by omega)]
    have e : (zs.take len0).getD k 0 = zs.getD k 0 := by simp [List.getElem?_take, show k < len0 by omega]
    rw [e]
end Go.Proofs.YtljkeladdplhlaaDoor
