/-
  A map by whole numbers, as a plain function.
-/
import Derived.Test.YtfapilgmgjmfeaaGreatDoorBase
namespace Go.Proofs.YtfapilgmgjmfeaaGreatDoor
open Go.RowKit Go.Maps

theorem lawI : Keyed Tryz.prog 2 := int_keyed Tryz.underlying2
theorem keyI {t : Int} (h : (Lit.int .i64 t).wf = true) : keyOf Tryz.prog 2 (.int .i64 t) = some (.int .i64 t) := keyOf_int_mk Tryz.underlying2 h
/-- How an element stands in a map. -/
structure Elem (β : Type) where
  R : Value → Option (DataW Unit × List MemPlace)
  enc : β → Value
  dat : β → DataW Unit
  ok : ∀ b, R (enc b) = some (dat b, [])
  inv : ∀ v b ps, R v = some (dat b, ps) → v = enc b
def IsMapI {β : Type} (E : Elem β) (w : World) (m n : Nat) (f : Int → Option β) : Prop :=
  ∃ D, w.ownsMap Tryz.prog 2 E.R m n D ∧ (∀ t, Maps.has D (.int .i64 t) = (f t).isSome) ∧ (∀ t b, f t = some b → ∀ z, D.atKey (.int .i64 t) z = E.dat b) ∧ (∀ t, f t = none → ∀ z, D.atKey (.int .i64 t) z = z)
def updI {β : Type} (f : Int → Option β) (t : Int) (v : Option β) : Int → Option β := fun u => if u = t then v else f u
theorem IsMapI.new {β : Type} (E : Elem β) (w : World) : IsMapI E (w.alloc (.map #[] 0)) w.heap.size 0 (fun _ => none) :=
  ⟨.map [], World.ownsMap_made w Tryz.prog 2 E.R, fun t => rfl, (fun t b h => by cases h), fun t _ z => rfl⟩
theorem IsMapI.lt {β : Type} {E : Elem β} {w : World} {m n : Nat} {f : Int → Option β} (h : IsMapI E w m n f) : m < w.heap.size := by
  obtain ⟨D, h1, _⟩ := h
  exact h1.lt
theorem IsMapI.block {β : Type} {E : Elem β} {w w' : World} {m n : Nat} {f : Int → Option β} (h : IsMapI E w m n f) (k : w'.heap[m]? = w.heap[m]?) : IsMapI E w' m n f := by
  obtain ⟨D, ⟨es, clock, hb, F, hs, hD⟩, h2⟩ := h
  exact ⟨D, ⟨es, clock, k.trans hb, F, hs, hD⟩, h2⟩
theorem IsMapI.keeps {β : Type} {E : Elem β} {w w' : World} {m n : Nat} {f : Int → Option β} (h : IsMapI E w m n f) (k : Keeps w w') : IsMapI E w' m n f := h.block (k.block m h.lt)
theorem IsMapI.only {β : Type} {E : Elem β} {X : List Nat} {w w' : World} {m n : Nat} {f : Int → Option β} (h : IsMapI E w m n f) (k : Only X w w') (hx : m ∉ X) : IsMapI E w' m n f := h.block (k.block m h.lt hx)
theorem isKey (t : Int) : WideAt.IsKeyLit (.int .i64 t) := by trivial
theorem IsMapI.put {β : Type} {E : Elem β} {w : World} {m n T e : Nat} {f : Int → Option β} (h : IsMapI E w m n f) (hT : Tryz.prog.underlying T = some (.map 2 e)) (hn : n < maxLen) {t : Int} (ht : (Lit.int .i64 t).wf = true) (b : β) :
    ∃ w', (Instr.mapUpdate T (.map (some m)) (.int .i64 t) (E.enc b)).run Tryz.prog w = .ok () w' ∧ IsMapI E w' m (n + 1) (updI f t (some b)) ∧ w.grownBy w' (some m) := by
  obtain ⟨D, h1, h2, h3, h4⟩ := h
  obtain ⟨w', r1, r2, r3⟩ := h1.update lawI hT hn (keyI ht) (E.ok b)
  have hD : IsMap D := h1.isMap
  refine ⟨w', r1, ⟨_, r2, fun u => ?_, fun u c hu z => ?_, fun u hu z => ?_⟩, r3⟩
  · unfold updI
    by_cases hut : u = t
    · rw [if_pos hut, hut, has_put_same hD (isKey t)]; rfl
    · rw [if_neg hut, has_put_other (by simpa using hut), h2]
  · unfold updI at hu
    by_cases hut : u = t
    · rw [if_pos hut] at hu; rw [hut, atKey_put_same hD (isKey t), Option.some.inj hu]
    · rw [if_neg hut] at hu; rw [atKey_put_other (by simpa using hut), h3 u c hu]
  · unfold updI at hu
    by_cases hut : u = t
    · rw [if_pos hut] at hu; cases hu
    · rw [if_neg hut] at hu; rw [atKey_put_other (by simpa using hut), h4 u hu]
theorem IsMapI.del {β : Type} {E : Elem β} {w : World} {m n T e : Nat} {f : Int → Option β} (h : IsMapI E w m n f) (hT : Tryz.prog.underlying T = some (.map 2 e)) {t : Int} (ht : (Lit.int .i64 t).wf = true) (ty : TypeId) :
    ∃ w', (Builtin.delete_ #[T, 2] ty #[.map (some m), .int .i64 t]).run Tryz.prog w = .ok (.tuple #[]) w' ∧ IsMapI E w' m n (updI f t none) ∧ w.grownBy w' (some m) := by
  obtain ⟨D, h1, h2, h3, h4⟩ := h
  obtain ⟨w', r1, r2, r3⟩ := h1.drop lawI hT (keyI ht) ty
  refine ⟨w', r1, ⟨_, r2, fun u => ?_, fun u c hu z => ?_, fun u hu z => ?_⟩, r3.grown⟩
  · unfold updI
    by_cases hut : u = t
    · rw [if_pos hut, hut, has_del_same]; rfl
    · rw [if_neg hut, has_del_other (by simpa using hut), h2]
  · unfold updI at hu
    by_cases hut : u = t
    · rw [if_pos hut] at hu; cases hu
    · rw [if_neg hut] at hu; rw [atKey_del_other (by simpa using hut), h3 u c hu]
  · unfold updI at hu
    by_cases hut : u = t
    · rw [hut, atKey_del_same]
    · rw [if_neg hut] at hu; rw [atKey_del_other (by simpa using hut), h4 u hu]
theorem IsMapI.look_ok {β : Type} {E : Elem β} {w : World} {m n T e : Nat} {f : Int → Option β} (h : IsMapI E w m n f) (hT : Tryz.prog.underlying T = some (.map 2 e)) {z : β} (hz : (zeroValue e).run Tryz.prog w = .ok (E.enc z) w) {t : Int} (ht : (Lit.int .i64 t).wf = true) :
    (Instr.lookup T (.map (some m)) (.int .i64 t) true).run Tryz.prog w = .ok (.tuple #[E.enc ((f t).getD z), .bool (f t).isSome]) w := by
  obtain ⟨D, h1, h2, h3, h4⟩ := h
  obtain ⟨v, ps, hr, hv⟩ := h1.look_ok lawI hT hz (E.ok z) (keyI ht)
  rw [hr, h2]
  cases hf : f t with
  | none =>
    rw [h4 t hf] at hv
    rw [E.inv v z ps hv]; rfl
  | some b =>
    rw [h3 t b hf] at hv
    rw [E.inv v b ps hv]; rfl
theorem IsMapI.look {β : Type} {E : Elem β} {w : World} {m n T e : Nat} {f : Int → Option β} (h : IsMapI E w m n f) (hT : Tryz.prog.underlying T = some (.map 2 e)) {z : β} (hz : (zeroValue e).run Tryz.prog w = .ok (E.enc z) w) {t : Int} (ht : (Lit.int .i64 t).wf = true) :
    (Instr.lookup T (.map (some m)) (.int .i64 t) false).run Tryz.prog w = .ok (E.enc ((f t).getD z)) w := by
  obtain ⟨D, h1, h2, h3, h4⟩ := h
  obtain ⟨v, ps, hr, hv⟩ := h1.lookup lawI hT hz (E.ok z) (keyI ht)
  rw [hr]
  cases hf : f t with
  | none =>
    rw [h4 t hf] at hv
    rw [E.inv v z ps hv]; rfl
  | some b =>
    rw [h3 t b hf] at hv
    rw [E.inv v b ps hv]; rfl

/-- An element by what it is and how it reads. -/
noncomputable def Elem.of {β : Type} (enc : β → Value) (dat : β → DataW Unit) (h1 : ∀ x y, enc x = enc y → x = y) (h2 : ∀ x y, dat x = dat y → x = y) : Elem β :=
  ⟨fun v => open Classical in if h : ∃ x, v = enc x then some (dat (Classical.choose h), []) else none, enc, dat,
    fun b => by
      have h : ∃ x, enc b = enc x := ⟨b, rfl⟩
      rw [dif_pos h, h1 _ _ (Classical.choose_spec h).symm],
    fun v b ps h => by
      by_cases hx : ∃ x, v = enc x
      · rw [dif_pos hx] at h
        have e := h2 _ _ (congrArg Prod.fst (Option.some.inj h))
        have := Classical.choose_spec hx
        rw [e] at this
        exact this
      · rw [dif_neg hx] at h; cases h⟩
theorem S_inj {a b : List UInt8} (h : S a = S b) : a = b := by
  have := congrArg (fun x : ByteArray => x.data.toList) h
  simpa [S_data] using this
/-- A life as an element: its action, and whether it was sent. -/
def lifeC (x : Act × Bool) : Value := .agg #[.int .i64 x.1.kind, .string (S x.1.room), .string (S x.1.subj), .string (S x.1.reason), .string (S x.1.deny), .bool x.2]
def lifeD (x : Act × Bool) : DataW Unit := .agg [.lit (.int .i64 x.1.kind), .lit (.string x.1.room), .lit (.string x.1.subj), .lit (.string x.1.reason), .lit (.string x.1.deny), .lit (.bool x.2)]
theorem lifeC_inj (x y : Act × Bool) (h : lifeC x = lifeC y) : x = y := by
  obtain ⟨⟨k, a, b, c, d⟩, s⟩ := x
  obtain ⟨⟨k', a', b', c', d'⟩, s'⟩ := y
  simp only [lifeC, Value.agg.injEq, Array.mk.injEq, List.cons.injEq, Value.int.injEq, Value.string.injEq, Value.bool.injEq, true_and, and_true] at h
  obtain ⟨h1, h2, h3, h4, h5, h6⟩ := h
  rw [h1, S_inj h2, S_inj h3, S_inj h4, S_inj h5, h6]
theorem lifeD_inj (x y : Act × Bool) (h : lifeD x = lifeD y) : x = y := by
  obtain ⟨⟨k, a, b, c, d⟩, s⟩ := x
  obtain ⟨⟨k', a', b', c', d'⟩, s'⟩ := y
  simp only [lifeD, DataW.agg.injEq, List.cons.injEq, DataW.lit.injEq, Lit.int.injEq, Lit.string.injEq, Lit.bool.injEq, true_and, and_true] at h
  obtain ⟨h1, h2, h3, h4, h5, h6⟩ := h
  rw [h1, h2, h3, h4, h5, h6]
noncomputable def lifeE : Elem (Act × Bool) := Elem.of lifeC lifeD lifeC_inj lifeD_inj
noncomputable def boolE : Elem Bool := Elem.of .bool (fun b => .lit (.bool b)) (fun x y h => by simpa using h) (fun x y h => by simpa using h)
noncomputable def intE : Elem Int := Elem.of (.int .i64) (fun b => .lit (.int .i64 b)) (fun x y h => by simpa using h) (fun x y h => by simpa using h)
theorem lifeE_enc (x : Act × Bool) : lifeE.enc x = lifeC x := rfl
end Go.Proofs.YtfapilgmgjmfeaaGreatDoor
