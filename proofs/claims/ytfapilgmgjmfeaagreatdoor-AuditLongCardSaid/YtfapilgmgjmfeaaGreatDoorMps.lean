/-
  A map by strings, as a plain function.
-/
import Derived.Test.YtfapilgmgjmfeaaGreatDoorMpi
import Derived.StringKeys
namespace Go.Proofs.YtfapilgmgjmfeaaGreatDoor
open Go.RowKit Go.Maps

theorem lawS : Keyed Tryz.prog 9 := string_keyed Tryz.underlying9
theorem keyS {t : List UInt8} (h : t.length ≤ maxLen) : keyOf Tryz.prog 9 (.string (S t)) = some (.string t) := WideMaps.keyOf_string_mk Tryz.underlying9 (s := S t) (by rw [S_size]; exact h)
def IsMapS {β : Type} (E : Elem β) (w : World) (m n : Nat) (f : List UInt8 → Option β) : Prop :=
  ∃ D, w.ownsMap Tryz.prog 9 E.R m n D ∧ (∀ t, Maps.has D (.string t) = (f t).isSome) ∧ (∀ t b, f t = some b → ∀ z, D.atKey (.string t) z = E.dat b) ∧ (∀ t, f t = none → ∀ z, D.atKey (.string t) z = z)
def updS {β : Type} (f : List UInt8 → Option β) (t : List UInt8) (v : Option β) : List UInt8 → Option β := fun u => if u = t then v else f u
theorem IsMapS.new {β : Type} (E : Elem β) (w : World) : IsMapS E (w.alloc (.map #[] 0)) w.heap.size 0 (fun _ => none) :=
  ⟨.map [], World.ownsMap_made w Tryz.prog 9 E.R, fun t => rfl, (fun t b h => by cases h), fun t _ z => rfl⟩
theorem IsMapS.lt {β : Type} {E : Elem β} {w : World} {m n : Nat} {f : List UInt8 → Option β} (h : IsMapS E w m n f) : m < w.heap.size := by
  obtain ⟨D, h1, _⟩ := h
  exact h1.lt
theorem IsMapS.block {β : Type} {E : Elem β} {w w' : World} {m n : Nat} {f : List UInt8 → Option β} (h : IsMapS E w m n f) (k : w'.heap[m]? = w.heap[m]?) : IsMapS E w' m n f := by
  obtain ⟨D, ⟨es, clock, hb, F, hs, hD⟩, h2⟩ := h
  exact ⟨D, ⟨es, clock, k.trans hb, F, hs, hD⟩, h2⟩
theorem IsMapS.keeps {β : Type} {E : Elem β} {w w' : World} {m n : Nat} {f : List UInt8 → Option β} (h : IsMapS E w m n f) (k : Keeps w w') : IsMapS E w' m n f := h.block (k.block m h.lt)
theorem IsMapS.only {β : Type} {E : Elem β} {X : List Nat} {w w' : World} {m n : Nat} {f : List UInt8 → Option β} (h : IsMapS E w m n f) (k : Only X w w') (hx : m ∉ X) : IsMapS E w' m n f := h.block (k.block m h.lt hx)
theorem isKeyS (t : List UInt8) : WideAt.IsKeyLit (.string t) := by trivial
theorem IsMapS.put {β : Type} {E : Elem β} {w : World} {m n T e : Nat} {f : List UInt8 → Option β} (h : IsMapS E w m n f) (hT : Tryz.prog.underlying T = some (.map 9 e)) (hn : n < maxLen) {t : List UInt8} (ht : t.length ≤ maxLen) (b : β) :
    ∃ w', (Instr.mapUpdate T (.map (some m)) (.string (S t)) (E.enc b)).run Tryz.prog w = .ok () w' ∧ IsMapS E w' m (n + 1) (updS f t (some b)) ∧ w.grownBy w' (some m) := by
  obtain ⟨D, h1, h2, h3, h4⟩ := h
  obtain ⟨w', r1, r2, r3⟩ := h1.update lawS hT hn (keyS ht) (E.ok b)
  have hD : IsMap D := h1.isMap
  refine ⟨w', r1, ⟨_, r2, fun u => ?_, fun u c hu z => ?_, fun u hu z => ?_⟩, r3⟩
  · unfold updS
    by_cases hut : u = t
    · rw [if_pos hut, hut, has_put_same hD (isKeyS t)]; rfl
    · rw [if_neg hut, has_put_other (by simpa using hut), h2]
  · unfold updS at hu
    by_cases hut : u = t
    · rw [if_pos hut] at hu; rw [hut, atKey_put_same hD (isKeyS t), Option.some.inj hu]
    · rw [if_neg hut] at hu; rw [atKey_put_other (by simpa using hut), h3 u c hu]
  · unfold updS at hu
    by_cases hut : u = t
    · rw [if_pos hut] at hu; cases hu
    · rw [if_neg hut] at hu; rw [atKey_put_other (by simpa using hut), h4 u hu]
theorem IsMapS.del {β : Type} {E : Elem β} {w : World} {m n T e : Nat} {f : List UInt8 → Option β} (h : IsMapS E w m n f) (hT : Tryz.prog.underlying T = some (.map 9 e)) {t : List UInt8} (ht : t.length ≤ maxLen) (ty : TypeId) :
    ∃ w', (Builtin.delete_ #[T, 9] ty #[.map (some m), .string (S t)]).run Tryz.prog w = .ok (.tuple #[]) w' ∧ IsMapS E w' m n (updS f t none) ∧ w.grownBy w' (some m) := by
  obtain ⟨D, h1, h2, h3, h4⟩ := h
  obtain ⟨w', r1, r2, r3⟩ := h1.drop lawS hT (keyS ht) ty
  refine ⟨w', r1, ⟨_, r2, fun u => ?_, fun u c hu z => ?_, fun u hu z => ?_⟩, r3.grown⟩
  · unfold updS
    by_cases hut : u = t
    · rw [if_pos hut, hut, has_del_same]; rfl
    · rw [if_neg hut, has_del_other (by simpa using hut), h2]
  · unfold updS at hu
    by_cases hut : u = t
    · rw [if_pos hut] at hu; cases hu
    · rw [if_neg hut] at hu; rw [atKey_del_other (by simpa using hut), h3 u c hu]
  · unfold updS at hu
    by_cases hut : u = t
    · rw [hut, atKey_del_same]
    · rw [if_neg hut] at hu; rw [atKey_del_other (by simpa using hut), h4 u hu]
theorem IsMapS.look_ok {β : Type} {E : Elem β} {w : World} {m n T e : Nat} {f : List UInt8 → Option β} (h : IsMapS E w m n f) (hT : Tryz.prog.underlying T = some (.map 9 e)) {z : β} (hz : (zeroValue e).run Tryz.prog w = .ok (E.enc z) w) {t : List UInt8} (ht : t.length ≤ maxLen) :
    (Instr.lookup T (.map (some m)) (.string (S t)) true).run Tryz.prog w = .ok (.tuple #[E.enc ((f t).getD z), .bool (f t).isSome]) w := by
  obtain ⟨D, h1, h2, h3, h4⟩ := h
  obtain ⟨v, ps, hr, hv⟩ := h1.look_ok lawS hT hz (E.ok z) (keyS ht)
  rw [hr, h2]
  cases hf : f t with
  | none =>
    rw [h4 t hf] at hv
    rw [E.inv v z ps hv]; rfl
  | some b =>
    rw [h3 t b hf] at hv
    rw [E.inv v b ps hv]; rfl
theorem IsMapS.look {β : Type} {E : Elem β} {w : World} {m n T e : Nat} {f : List UInt8 → Option β} (h : IsMapS E w m n f) (hT : Tryz.prog.underlying T = some (.map 9 e)) {z : β} (hz : (zeroValue e).run Tryz.prog w = .ok (E.enc z) w) {t : List UInt8} (ht : t.length ≤ maxLen) :
    (Instr.lookup T (.map (some m)) (.string (S t)) false).run Tryz.prog w = .ok (E.enc ((f t).getD z)) w := by
  obtain ⟨D, h1, h2, h3, h4⟩ := h
  obtain ⟨v, ps, hr, hv⟩ := h1.lookup lawS hT hz (E.ok z) (keyS ht)
  rw [hr]
  cases hf : f t with
  | none =>
    rw [h4 t hf] at hv
    rw [E.inv v z ps hv]; rfl
  | some b =>
    rw [h3 t b hf] at hv
    rw [E.inv v b ps hv]; rfl

end Go.Proofs.YtfapilgmgjmfeaaGreatDoor
