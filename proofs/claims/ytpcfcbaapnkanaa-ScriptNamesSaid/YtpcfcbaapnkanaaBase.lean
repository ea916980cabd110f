/-
  Words for the contracts of this seat: what a call answers, and that all that was there is as it was.
-/
import Derived.Test.YtpcfcbaapnkanaaProg
import Derived.WalkKit
import Derived.WalkSpells
import Derived.WalkLawsBesides
import Derived.BigQuiet
import Derived.Lib.Hide
import Derived.Outline
import Derived.RegionTactic
import Derived.ChangeAlike
import Derived.Deep.Draws
import Derived.Deep.RegionHeld3
import Derived.Deep.RegionWith
import Derived.Deep.DeepCutAuto
import Derived.IntWalk
namespace Go.Proofs.Ytpcfcbaapnkanaa
open Go.RowKit

/-- All that was there is as it was. -/
def Keeps (w w' : World) : Prop := Below w.heap.size w w'
theorem Keeps.refl (w : World) : Keeps w w := Below.refl _ _
theorem Keeps.trans {a b c : World} (h : Keeps a b) (k : Keeps b c) : Keeps a c := Below.trans h (Below.mono k (Below.size h))
theorem Keeps.drew {a b : World} (h : Keeps a b) : Keeps a b.drew := Below.drew h
theorem Keeps.drewN {a b : World} (h : Keeps a b) (n : Nat) : Keeps a (b.drewN n) := below_drewN h n
theorem Keeps.alloc {a b : World} (h : Keeps a b) (o : Obj) : Keeps a (b.alloc o) := Below.alloc h (Below.size h) o
theorem Keeps.setCell {a b : World} (h : Keeps a b) {p : Addr} (hp : a.heap.size ≤ p.block) (u : Value) : Keeps a (b.setCell p u) := Below.setCell h hp u
theorem Keeps.cell {a b : World} (h : Keeps a b) {p : Addr} {v : Value} (hc : a.cell? p = some v) : b.cell? p = some v := (Below.cell h (World.block_lt_of_cell? _ _ hc)).trans hc

/-- A call that answers v and leaves all that was there as it was. -/
def Ret (v : Value) (w : World) (e : Ending) (w' : World) : Prop := e = .returned v ∧ Keeps w w'
theorem Ret.of {b b' : Value} {w w' : World} (h : b' = b) (k : Keeps w w') : Ret b w (.returned b') w' := ⟨by rw [h], k⟩

theorem Ret.int {k : IntKind} {x y : Int} {w w' : World} (h : x = y) (q : Keeps w w') : Ret (.int k y) w (.returned (.int k x)) w' := ⟨by rw [h], q⟩
theorem Ret.bool {x y : Bool} {w w' : World} (h : x = y) (q : Keeps w w') : Ret (.bool y) w (.returned (.bool x)) w' := ⟨by rw [h], q⟩

def S (l : List UInt8) : ByteArray := ⟨l.toArray⟩
theorem S_data (l : List UInt8) : (S l).data.toList = l := rfl
theorem S_size (l : List UInt8) : (S l).size = l.length := rfl
theorem S_of (s : ByteArray) : S s.data.toList = s := rfl
end Go.Proofs.Ytpcfcbaapnkanaa
