/-
  The contracts of EventID, Server, named, User, Room and Kind of package ident.
-/
import Derived.Test.YtpcfcbaapnkanaaCut
namespace Go.Proofs.Ytpcfcbaapnkanaa
open Go.RowKit

/-- What the closure of class has captured. -/
def IsClass (cap : Bool) (more : ByteArray) (a b : Addr) (w : World) : Prop := w.cell? a = some (.bool cap) ∧ w.cell? b = some (.string more)
theorem IsClass.later {cap : Bool} {more : ByteArray} {a b : Addr} {w w' : World} (h : IsClass cap more a b w) (k : Keeps w w') : IsClass cap more a b w' := ⟨k.cell h.1, k.cell h.2⟩

/-- The function value that class returns. -/
def Closed (cap : Bool) (more : ByteArray) (w : World) (e : Ending) (w' : World) : Prop :=
  ∃ a b : Addr, e = .returned (.func (.func 67) #[] #[.pointer (some a), .pointer (some b)]) ∧ IsClass cap more a b w' ∧ Keeps w w'

theorem closed_of (cap : Bool) (more : ByteArray) (w : World) : IsClass cap more ⟨w.heap.size, 0, none⟩ ⟨w.heap.size + 1, 0, none⟩ ((w.alloc (.cells #[.bool cap] 4)).alloc (.cells #[.string more] 9)) := by
  refine ⟨?_, ?_⟩
  · rw [World.cell?_alloc_past _ _ _ (by simp), World.cell?_alloc_at _ _ _ _ rfl]; rfl
  · rw [World.cell?_alloc_at _ _ _ _ (by simp)]; rfl

set_option maxHeartbeats 1000000 in
set_option maxRecDepth 10000 in
theorem class_any (cap : Bool) (more : ByteArray) (w : World) : Calls Try.prog 50 #[.bool cap, .string more] w (Closed cap more w) := by
  have hmf : ∀ (fn : Fn) (first cap : Array Value) (w : World), (Instr.makeFunc fn first cap).run Try.prog w = .ok (.func fn first cap) w := fun _ _ _ _ => rfl
  have hc := Lib.hid (closed_of cap more w)
  go_enter Try.func50, Try.ntmps50
  go_wp2
  go_ret
  exact ⟨_, _, rfl, hc.out, ((Keeps.refl w).alloc _).alloc _⟩

theorem of_cl (s : ByteArray) (cap : Bool) (more : ByteArray) (a b : Addr) (w : World) (hs : s.size ≤ maxLen) (h : IsClass cap more a b w) :
    Calls Try.prog 65 #[.string s, .func (.func 67) #[] #[.pointer (some a), .pointer (some b)]] w (RetB (ofB (classB cap more.data.toList) s.data.toList) w) := of_class s cap more a b w hs h.1 h.2

end Go.Proofs.Ytpcfcbaapnkanaa
