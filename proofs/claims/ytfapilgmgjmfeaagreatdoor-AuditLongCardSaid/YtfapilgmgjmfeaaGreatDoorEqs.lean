/-
  Notes and actions compared.
-/
import Derived.Test.YtfapilgmgjmfeaaGreatDoorMpi
namespace Go.Proofs.YtfapilgmgjmfeaaGreatDoor
open Go.RowKit

theorem S_list (l : List UInt8) : (S l).toList = l := by rw [ByteArray.toList_eq]; rfl
theorem S_eq (a b : List UInt8) : ((S a).toList == (S b).toList) = decide (a = b) := by
  rw [ByteArray.toList_eq, ByteArray.toList_eq, S_data, S_data]
  by_cases h : a = b <;> simp [h]
theorem S_eq_iff (a b : List UInt8) : (S a = S b) ↔ (a = b) := ⟨S_inj, fun h => by rw [h]⟩
set_option maxRecDepth 100000 in
theorem eq_act_in (d : Nat) (a b : Act) (w : World) : (Op.equalIn (d + 2) 27 (.agg (actC a)) (.agg (actC b))).run Tryz.prog w = .ok (decide (a = b)) w := by
  have u3 := Tryz.underlying3
  have u9 := Tryz.underlying9
  have hS : Tryz.prog.underlying 27 = some (.struct (Tryz.prog.fieldsOf 27)) := by kernel_rfl
  have hp : Tryz.prog.stoodInHeld 27 = false := by kernel_rfl
  have a3 := Tryz.isAgg3
  have a9 := Tryz.isAgg9
  have z3 := Tryz.sizeOf3
  have z9 := Tryz.sizeOf9
  obtain ⟨k, r, s, c, n⟩ := a
  obtain ⟨k', r', s', c', n'⟩ := b
  rw [run_equalIn_agg w (d + 1) 27 _ _ hS hp]
  simp only [Program.fieldsOf, Tryz.underlying27, actC]
  go_simp
  by_cases h1 : k = k' <;> by_cases h2 : r = r' <;> by_cases h3 : s = s' <;> by_cases h4 : c = c' <;> by_cases h5 : n = n' <;> simp [h1, h2, h3, h4, h5, S_list]
theorem eql_act (a b : Act) (w : World) : (binOp .eql 27 (.agg (actC a)) (.agg (actC b))).run Tryz.prog w = .ok (.bool (decide (a = b))) w := by
  rw [run_eql_struct, show (10000 : Nat) = 9998 + 2 from rfl, eq_act_in]
  rfl
theorem neq_act (a b : Act) (w : World) : (binOp .neq 27 (.agg (actC a)) (.agg (actC b))).run Tryz.prog w = .ok (.bool (!decide (a = b))) w := by
  rw [run_neq_struct, show (10000 : Nat) = 9998 + 2 from rfl, eq_act_in]
  rfl
set_option maxRecDepth 100000 in
theorem eq_note_in (d : Nat) (a b : Nt) (w : World) : (Op.equalIn (d + 3) 29 (.agg (ntC a)) (.agg (ntC b))).run Tryz.prog w = .ok (decide (a = b)) w := by
  have u3 := Tryz.underlying3
  have u2 := Tryz.underlying2
  have u9 := Tryz.underlying9
  have hS : Tryz.prog.underlying 29 = some (.struct (Tryz.prog.fieldsOf 29)) := by kernel_rfl
  have hp : Tryz.prog.stoodInHeld 29 = false := by kernel_rfl
  have a3 := Tryz.isAgg3
  have a2 := Tryz.isAgg2
  have a9 := Tryz.isAgg9
  have a29 := Tryz.isAgg27
  have z3 := Tryz.sizeOf3
  have z2 := Tryz.sizeOf2
  have z9 := Tryz.sizeOf9
  have z29 := Tryz.sizeOf27
  have hact := fun (w : World) => eq_act_in d a.act b.act w
  obtain ⟨k, t, ⟨ak, r, s, c, n⟩, co, x⟩ := a
  obtain ⟨k', t', ⟨ak', r', s', c', n'⟩, co', x'⟩ := b
  simp only [actC] at hact
  rw [run_equalIn_agg w (d + 2) 29 _ _ hS hp]
  simp only [Program.fieldsOf, Tryz.underlying29, ntC]
  simp [go_sem, hact, u3, u2, u9, a3, a2, a9, a29, z3, z2, z9, z29]
  clear hact a3 a2 a9 a29 z3 z2 z9 z29 u3 u2 u9 hS hp
  by_cases h1 : k = k'
  rotate_left
  · simp [h1, S_list]
  subst h1
  by_cases h2 : t = t'
  rotate_left
  · simp [h2, S_list]
  subst h2
  by_cases h3 : ak = ak'
  rotate_left
  · simp [h3, S_list]
  subst h3
  by_cases h4 : r = r'
  rotate_left
  · simp [h4, S_list]
  subst h4
  by_cases h5 : s = s'
  rotate_left
  · simp [h5, S_list]
  subst h5
  by_cases h6 : c = c'
  rotate_left
  · simp [h6, S_list]
  subst h6
  by_cases h7 : n = n'
  rotate_left
  · simp [h7, S_list]
  subst h7
  by_cases h8 : co = co'
  rotate_left
  · simp [h8, S_list]
  subst h8
  by_cases h9 : x = x'
  rotate_left
  · simp [h9, S_list]
  subst h9
  simp
theorem eql_note (a b : Nt) (w : World) : (binOp .eql 29 (.agg (ntC a)) (.agg (ntC b))).run Tryz.prog w = .ok (.bool (decide (a = b))) w := by
  rw [run_eql_struct, show (10000 : Nat) = 9997 + 3 from rfl, eq_note_in]
  rfl
end Go.Proofs.YtfapilgmgjmfeaaGreatDoor
