/-
  Slices of whole numbers: how they read, what Own and Same of the kit do with them.
-/
import Derived.Test.YtmcogncpncfpmaaDoorItr
import Derived.Deep.Upon
import Derived.Laws.OwnMore
namespace Go.Proofs.YtmcogncpncfpmaaDoor
open Go.RowKit

/-- The slice at A holds the numbers zs. -/
def IntsAt (w : World) (A : Option Addr) (zs : List Int) : Prop := ∀ k, k < zs.length → ∃ ad, A = some ad ∧ w.cell? (ad.add k) = some (.int .i64 (zs.getD k 0))
theorem IntsAt.keeps {w w' : World} {A : Option Addr} {zs : List Int} (h : IntsAt w A zs) (k : Keeps w w') : IntsAt w' A zs := fun j hj => by
  obtain ⟨ad, e, hc⟩ := h j hj
  exact ⟨ad, e, k.cell hc⟩
theorem IntsAt.nil (w : World) (A : Option Addr) : IntsAt w A [] := fun k hk => absurd hk (by simp)
def ivals (zs : List Int) : List Value := zs.map (.int .i64)
theorem ivals_len (zs : List Int) : (ivals zs).length = zs.length := by simp [ivals]
theorem add_zero (g k : Nat) : (⟨g, 0, none⟩ : Addr).add k = ⟨g, k, none⟩ := by
  unfold Addr.add
  split
  · simp_all
  · simp
theorem IntsAt.own {w : World} {B : Nat} {v : Value} {zs : List Int} (h : w.ownsRow B 3 1 v zs.length (ivals zs)) : ∃ A c, v = .slice A zs.length c ∧ IntsAt w A zs ∧ (zs = [] ∨ A ≠ none) := by
  rcases h.2 with ⟨rfl, h0⟩ | ⟨g, cap, cur, rfl, hb, hgb, hle, hm, hs, ht⟩
  · have e : zs = [] := List.eq_nil_of_length_eq_zero h0
    subst e
    exact ⟨none, 0, rfl, IntsAt.nil _ _, .inl rfl⟩
  · refine ⟨_, cap, rfl, fun k hk => ⟨_, rfl, ?_⟩, .inr (by simp)⟩
    refine h.cells (g := g) rfl k _ ?_
    simp [ivals, hk]

/-- zs put behind what a call's own row holds. -/
theorem app_ints (B : Nat) (w : World) (v : Value) (xs zs : List Int) (A : Option Addr) (c : Nat) (hown : w.ownsRow B 3 1 v xs.length (ivals xs)) (h : IntsAt w A zs) (hA : zs = [] ∨ A ≠ none) (hl : xs.length + zs.length ≤ 100000) (hB : B ≤ w.heap.size) :
    ∃ v' w', (Builtin.append_ #[29, 29] 29 #[v, .slice A zs.length c]).run Tryd.prog w = .ok v' w' ∧ w'.ownsRow B 3 1 v' (xs ++ zs).length (ivals (xs ++ zs)) ∧ w.grownBy w' v.ownBlock := by
  obtain ⟨i0, hi, hz0, hz1, hz2⟩ := info_parts info3
  cases A with
  | none =>
    have e : zs = [] := by rcases hA with e | e
                           · exact e
                           · exact absurd rfl e
    subst e
    have hv : ∃ a n c', v = .slice a n c' ∧ n ≤ c' := by
      rcases hown.2 with ⟨rfl, h0⟩ | ⟨g, cap, cur, rfl, _, _, hle, _⟩
      · exact ⟨_, _, _, rfl, Nat.le_refl _⟩
      · exact ⟨_, _, _, rfl, hle⟩
    obtain ⟨a, n, c', rfl, hle⟩ := hv
    refine ⟨_, w, run_append_nothing w 29 29 29 3 i0 Tryd.underlying29 hi a n c' hle _ ?_, by simpa using hown, grow_refl _ _⟩
    exact { kind := .inl ⟨_, Tryd.underlying29⟩, len := fun _ => rfl, cells := by simp [Builtin.firstCells], cellsD := by simp [Builtin.firstCells], newsLen := by simp, one := by simp }
  | some a =>
    obtain ⟨v', w', h1, h2, h3, _⟩ := run_append_own (P := Tryd.prog) w B 29 29 3 i0 (.int .i64 0) 1 8 Tryd.underlying29 hi hz0 hz1 hz2 rfl (by decide) v xs.length (ivals xs) hown a zs.length c (ivals zs) (by simp [ivals]) (fun j u hj => by
      have hj' : j < zs.length := by
        rcases Nat.lt_or_ge j zs.length with q | q
        · exact q
        · rw [List.getElem?_eq_none (by rw [ivals_len]; exact q)] at hj; cases hj
      obtain ⟨ad, e, hc⟩ := h j hj'
      cases e
      rw [hc]
      simp [ivals, hj'] at hj ⊢
      exact hj) (fun u hu => by obtain ⟨z, _, rfl⟩ := List.mem_map.1 hu; rfl) (by unfold maxLen; omega) (by omega) hB
    refine ⟨v', w', h1, ?_, h3⟩
    rw [List.length_append]
    have e : ivals (xs ++ zs) = ivals xs ++ ivals zs := by simp [ivals]
    rw [e]
    exact h2

theorem wpList_app {P : Program} {w w' : World} {ops : Array Oper} {rest : List Oper} {o : Oper} {a : Act} {Q : Exit → Act → World → Prop} (hgd : o.guard = none) (s x : Operand) (t : TypeId)
    (ho : o.op = .call { callee := .builtin .append, args := #[s, x], argTypes := #[t, t] }) (v y v' : Value) (hs : a.eval s = v) (hx : a.eval x = y) (hr : (Builtin.append_ #[t, t] o.type #[v, y]).run P w = .ok v' w')
    (h : wpList P ops Q rest (a.put o.dst v') w') : wpList P ops Q (o :: rest) a w := by
  refine wpList_plain hgd fun K hK => ?_
  unfold Oper.wp execOp
  simp only [ho, resolve, invoke, builtin, Sem.run_bind, Sem.run_pure, Result.andThen_ok, List.map_toArray, List.map_cons, List.map_nil, hs, hx, hr]
  exact hK _ _ h

/-- A call that answers a slice of the numbers zs, of its own. -/
def RetZ (zs : List Int) (w : World) (e : Ending) (w' : World) : Prop := (∃ v, e = .returned v ∧ w'.ownsRow w.heap.size 3 1 v zs.length (ivals zs)) ∧ Keeps w w'
end Go.Proofs.YtmcogncpncfpmaaDoor
