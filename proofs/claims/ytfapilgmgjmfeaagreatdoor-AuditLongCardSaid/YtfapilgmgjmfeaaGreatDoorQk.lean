/-
  A region that draws its order, whose operations only read, and whose callees leave all that was there as it was: walked once.
-/
import Derived.Test.YtfapilgmgjmfeaaGreatDoorBase
import Derived.Deep.Quiet
import Derived.BigQuiet
namespace Go.Proofs.YtfapilgmgjmfeaaGreatDoor
open Go.RowKit

/-- A world that keeps all of another. -/
structure Wl (w : World) where
  x : World
  k : Keeps w x
instance (w : World) : Nonempty (Wl w) := ⟨⟨w, Keeps.refl w⟩⟩

theorem wp_region_keeps {P : Program} {id : Nat} {Q : Exit → Go.Act → World → Prop} {a : Go.Act} {w : World} {l : List Oper} (hm : P.follows .mixedOrders = true) (hB : Region.lexB .any l.toArray = true)
    (h : wpQuiet P l.toArray (fun w' => ∃ k : Wl w, w' = k.x) (fun a' => ∀ w', (∃ k : Wl w, w' = k.x) → Q .normal a' w') l a) : (Code.region id l.toArray true).wp P Q a w :=
  wp_region_quiet (C := fun w' => ∃ k : Wl w, w' = k.x) hm hB ⟨⟨w.drew, (Keeps.refl w).drew⟩, rfl⟩ (by simpa using h)
theorem quiet_call {P : Program} {w x : World} {f : FuncId} {args : Array Value} {v : Value} (kx : Keeps w x) (h : Calls P f args x (Ret v x)) : Calls P f args x fun e w'' => e = .returned v ∧ ∃ k : Wl w, w'' = k.x :=
  h.mono fun _ w'' ⟨he, hk⟩ => ⟨he, ⟨w'', kx.trans hk⟩, rfl⟩
end Go.Proofs.YtfapilgmgjmfeaaGreatDoor
