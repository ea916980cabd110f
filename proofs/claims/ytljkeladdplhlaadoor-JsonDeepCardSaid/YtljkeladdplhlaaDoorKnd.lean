/-
  The kinds of values by their first byte, of package json.
-/
import Derived.Test.YtljkeladdplhlaaDoorRdn
import Derived.WalkKit
namespace Go.Proofs.YtljkeladdplhlaaDoor
open Go.RowKit Go.Maps

/-- How a function stands in a map. -/
def fnElem : Value → Option (DataW Unit × List MemPlace)
  | .func (.func n) f c => if f = #[] ∧ c = #[] ∧ n ≠ 0 then some (.lit (.int .i64 (n : Int)), []) else none
  | .nilFunc => some (.lit (.int .i64 0), [])
  | _ => none
theorem fnElem_fn (n : Nat) (hn : n ≠ 0) : fnElem (.func (.func n) #[] #[]) = some (.lit (.int .i64 (n : Int)), []) := by simp [fnElem, hn]
def kinds : List (Nat × Nat) := [(34, 65), (45, 66), (116, 67), (102, 67), (110, 67), (91, 68), (123, 69), (48, 66), (49, 66), (50, 66), (51, 66), (52, 66), (53, 66), (54, 66), (55, 66), (56, 66), (57, 66)]
def putAll (l : List (Nat × Nat)) : DataW Unit := l.foldl (fun D x => D.put (.int .u8 (x.1 : Int)) (.lit (.int .i64 (x.2 : Int)))) (.map [])
def Kinds (w : World) (b : Nat) : Prop := w.ownsMap Tryd.prog 5 fnElem b 17 (putAll kinds)
theorem law5 : Keyed Tryd.prog 5 := int_keyed Tryd.underlying5

def kindN (n : Nat) : Nat := if n = 34 then 65 else if n = 45 ∨ (48 ≤ n ∧ n ≤ 57) then 66 else if n = 116 ∨ n = 102 ∨ n = 110 then 67 else if n = 91 then 68 else if n = 123 then 69 else 0
def litOf : DataW Unit → Option Int
  | .lit (.int .i64 k) => some k
  | _ => none
theorem litOf_inv {d : DataW Unit} {k : Int} (h : litOf d = some k) : d = .lit (.int .i64 k) := by
  unfold litOf at h
  split at h
  · simp at h; rw [h]
  · simp at h
set_option maxRecDepth 100000 in
theorem kinds_at : ∀ n : Fin 256, litOf ((putAll kinds).atKey (.int .u8 ((n.val : Nat) : Int)) (.lit (.int .i64 0))) = some ((kindN n.val : Nat) : Int) ∧ Maps.has (putAll kinds) (.int .u8 ((n.val : Nat) : Int)) = (kindN n.val != 0) := by decide +kernel

theorem kinds_look {w : World} {b : Nat} (h : Kinds w b) (c : UInt8) : ∃ v, (Instr.lookup 68 (.map (some b)) (.int .u8 (c.toNat : Int)) true).run Tryd.prog w = .ok (.tuple #[v, .bool (kindN c.toNat != 0)]) w ∧ (kindN c.toNat ≠ 0 → v = .func (.func (kindN c.toNat)) #[] #[]) ∧ (kindN c.toNat = 0 → v = .nilFunc) := by
  have hc := c.toNat_lt
  obtain ⟨h1, h2⟩ := kinds_at ⟨c.toNat, hc⟩
  replace h1 : litOf ((putAll kinds).atKey (.int .u8 (c.toNat : Int)) (.lit (.int .i64 0))) = some ((kindN c.toNat : Nat) : Int) := h1
  replace h2 : Maps.has (putAll kinds) (.int .u8 (c.toNat : Int)) = (kindN c.toNat != 0) := h2
  have hz : (zeroValue 70).run Tryd.prog w = .ok .nilFunc w := by kernel_rfl
  obtain ⟨v, ps, hrun, hv⟩ := World.ownsMap.look_ok (t := 68) h law5 Tryd.underlying68 hz (zd := .lit (.int .i64 0)) (zp := []) rfl (key := .int .u8 (c.toNat : Int)) (kl := .int .u8 (c.toNat : Int)) (keyOf_int_mk Tryd.underlying5 (by simp [Lit.wf, IntKind.min, IntKind.max, IntKind.bits, IntKind.signed]; omega))
  rw [h2] at hrun
  rw [litOf_inv h1] at hv
  unfold fnElem at hv
  split at hv
  · split at hv
    · rename_i he
      obtain ⟨rfl, rfl, hne⟩ := he
      have h3 := (Lit.int.inj (DataW.lit.inj (Prod.mk.inj (Option.some.inj hv)).1)).2
      exact ⟨_, hrun, fun _ => by rw [Int.ofNat.inj h3], fun hk => absurd ((Int.ofNat.inj h3).trans hk) hne⟩
    · simp at hv
  · have h3 := (Lit.int.inj (DataW.lit.inj (Prod.mk.inj (Option.some.inj hv)).1)).2
    exact ⟨_, hrun, fun hk => absurd (by omega) hk, fun _ => rfl⟩
  · simp at hv

theorem kind_put {w : World} {b n : Nat} {D : DataW Unit} (h : w.ownsMap Tryd.prog 5 fnElem b n D) (hn : n ≤ 20) (c k : Nat) (hc : c < 256) (hk : k ≠ 0) {x : Int} (hx : x = (c : Int)) :
    ∃ w', (Instr.mapUpdate 68 (.map (some b)) (.int .u8 x) (.func (.func k) #[] #[])).run Tryd.prog w = .ok () w' ∧ w'.ownsMap Tryd.prog 5 fnElem b (n + 1) (D.put (.int .u8 (c : Int)) (.lit (.int .i64 (k : Int)))) ∧ w.grownBy w' (some b) := by
  rw [hx]
  exact World.ownsMap.update (t := 68) h law5 Tryd.underlying68 (by unfold maxLen; omega) (keyOf_int_mk Tryd.underlying5 (by simp [Lit.wf, IntKind.min, IntKind.max, IntKind.bits, IntKind.signed]; omega)) (fnElem_fn k hk)

set_option maxHeartbeats 8000000 in
set_option maxRecDepth 100000 in
theorem kinds_any (w : World) : Calls Tryd.prog 47 #[] w (fun e w' => e = .returned (.map (some w.heap.size)) ∧ Kinds w' w.heap.size ∧ Keeps w w') := by
  have hmm := @run_makeMap Tryd.prog
  have o0 := World.ownsMap_made w Tryd.prog 5 fnElem
  have k0 : Keeps w (w.alloc (.map #[] 0)) := (Keeps.refl w).alloc _
  obtain ⟨w1, e1, o1, g1⟩ := kind_put o0 (by omega) 34 65 (by omega) (by omega) (x := 34) rfl
  have k1 : Keeps w w1 := k0.grown g1 k0.size (fun j hj => by cases hj; exact Nat.le_refl _)
  clear g1 o0 k0
  obtain ⟨w2, e2, o2, g2⟩ := kind_put o1 (by omega) 45 66 (by omega) (by omega) (x := 45) rfl
  have k2 : Keeps w w2 := k1.grown g2 k1.size (fun j hj => by cases hj; exact Nat.le_refl _)
  clear g2 o1 k1
  obtain ⟨w3, e3, o3, g3⟩ := kind_put o2 (by omega) 116 67 (by omega) (by omega) (x := 116) rfl
  have k3 : Keeps w w3 := k2.grown g3 k2.size (fun j hj => by cases hj; exact Nat.le_refl _)
  clear g3 o2 k2
  obtain ⟨w4, e4, o4, g4⟩ := kind_put o3 (by omega) 102 67 (by omega) (by omega) (x := 102) rfl
  have k4 : Keeps w w4 := k3.grown g4 k3.size (fun j hj => by cases hj; exact Nat.le_refl _)
  clear g4 o3 k3
  obtain ⟨w5, e5, o5, g5⟩ := kind_put o4 (by omega) 110 67 (by omega) (by omega) (x := 110) rfl
  have k5 : Keeps w w5 := k4.grown g5 k4.size (fun j hj => by cases hj; exact Nat.le_refl _)
  clear g5 o4 k4
  obtain ⟨w6, e6, o6, g6⟩ := kind_put o5 (by omega) 91 68 (by omega) (by omega) (x := 91) rfl
  have k6 : Keeps w w6 := k5.grown g6 k5.size (fun j hj => by cases hj; exact Nat.le_refl _)
  clear g6 o5 k5
  obtain ⟨w7, e7, o7, g7⟩ := kind_put o6 (by omega) 123 69 (by omega) (by omega) (x := 123) rfl
  have k7 : Keeps w w7 := k6.grown g7 k6.size (fun j hj => by cases hj; exact Nat.le_refl _)
  clear g7 o6 k6
  obtain ⟨w8, e8, o8, g8⟩ := kind_put o7 (by omega) 48 66 (by omega) (by omega) (x := 48) rfl
  have k8 : Keeps w w8 := k7.grown g8 k7.size (fun j hj => by cases hj; exact Nat.le_refl _)
  clear g8 o7 k7
  obtain ⟨w9, e9, o9, g9⟩ := kind_put o8 (by omega) 49 66 (by omega) (by omega) (x := 49) rfl
  have k9 : Keeps w w9 := k8.grown g9 k8.size (fun j hj => by cases hj; exact Nat.le_refl _)
  clear g9 o8 k8
  obtain ⟨w10, e10, o10, g10⟩ := kind_put o9 (by omega) 50 66 (by omega) (by omega) (x := 50) rfl
  have k10 : Keeps w w10 := k9.grown g10 k9.size (fun j hj => by cases hj; exact Nat.le_refl _)
  clear g10 o9 k9
  obtain ⟨w11, e11, o11, g11⟩ := kind_put o10 (by omega) 51 66 (by omega) (by omega) (x := 51) rfl
  have k11 : Keeps w w11 := k10.grown g11 k10.size (fun j hj => by cases hj; exact Nat.le_refl _)
  clear g11 o10 k10
  obtain ⟨w12, e12, o12, g12⟩ := kind_put o11 (by omega) 52 66 (by omega) (by omega) (x := 52) rfl
  have k12 : Keeps w w12 := k11.grown g12 k11.size (fun j hj => by cases hj; exact Nat.le_refl _)
  clear g12 o11 k11
  obtain ⟨w13, e13, o13, g13⟩ := kind_put o12 (by omega) 53 66 (by omega) (by omega) (x := 53) rfl
  have k13 : Keeps w w13 := k12.grown g13 k12.size (fun j hj => by cases hj; exact Nat.le_refl _)
  clear g13 o12 k12
  obtain ⟨w14, e14, o14, g14⟩ := kind_put o13 (by omega) 54 66 (by omega) (by omega) (x := 54) rfl
  have k14 : Keeps w w14 := k13.grown g14 k13.size (fun j hj => by cases hj; exact Nat.le_refl _)
  clear g14 o13 k13
  obtain ⟨w15, e15, o15, g15⟩ := kind_put o14 (by omega) 55 66 (by omega) (by omega) (x := 55) rfl
  have k15 : Keeps w w15 := k14.grown g15 k14.size (fun j hj => by cases hj; exact Nat.le_refl _)
  clear g15 o14 k14
  obtain ⟨w16, e16, o16, g16⟩ := kind_put o15 (by omega) 56 66 (by omega) (by omega) (x := 56) rfl
  have k16 : Keeps w w16 := k15.grown g16 k15.size (fun j hj => by cases hj; exact Nat.le_refl _)
  clear g16 o15 k15
  obtain ⟨w17, e17, o17, g17⟩ := kind_put o16 (by omega) 57 66 (by omega) (by omega) (x := 57) rfl
  have k17 : Keeps w w17 := k16.grown g17 k16.size (fun j hj => by cases hj; exact Nat.le_refl _)
  clear g17 o16 k16
  have HO : Hid (Kinds w17 w.heap.size ∧ Keeps w w17) := Lib.hid ⟨o17, k17⟩
  clear o17 k17
  go_enter Tryd.func47, Tryd.ntmps47
  go_wp2
  refine wp_loop_rounds 11 ?_
  rw [rounds_succ]
  go_wp2
  rw [rounds_succ]
  go_wp2
  rw [rounds_succ]
  go_wp2
  rw [rounds_succ]
  go_wp2
  rw [rounds_succ]
  go_wp2
  rw [rounds_succ]
  go_wp2
  rw [rounds_succ]
  go_wp2
  rw [rounds_succ]
  go_wp2
  rw [rounds_succ]
  go_wp2
  rw [rounds_succ]
  go_wp2
  rw [rounds_succ]
  go_wp2
  go_ret
  exact ⟨rfl, HO.out.1, HO.out.2⟩
end Go.Proofs.YtljkeladdplhlaaDoor
