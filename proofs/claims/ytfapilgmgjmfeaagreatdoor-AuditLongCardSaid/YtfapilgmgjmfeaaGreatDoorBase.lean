/-
  Words for the contracts of this seat: what a call answers, and that all that was there is as it was.
-/
import Derived.Test.YtfapilgmgjmfeaaGreatDoorProg
import Derived.WalkKit
import Derived.WalkSpells
import Derived.WalkLawsBesides
import Derived.BigQuiet
import Derived.Lib.Hide
import Derived.Outline
import Derived.RegionTactic
import Derived.ChangeAlike
import Derived.Deep.Draws
import Derived.Deep.RegionHeld3
import Derived.Deep.RegionWith
import Derived.Deep.DeepCutAuto
import Derived.IntWalk
import Derived.Deep.QuietTactic
import Derived.BigRegion
import Derived.StillTailTactics
import Derived.Maps.OwnSet
import Derived.Laws.StructEq
import Derived.Test.YtfapilgmgjmfeaaGreatDoorApu
namespace Go.Proofs.YtfapilgmgjmfeaaGreatDoor
open Go.RowKit

/-- All that was there is as it was. -/
def Keeps (w w' : World) : Prop := Below w.heap.size w w'
theorem Keeps.refl (w : World) : Keeps w w := Below.refl _ _
theorem Keeps.trans {a b c : World} (h : Keeps a b) (k : Keeps b c) : Keeps a c := Below.trans h (Below.mono k (Below.size h))
theorem Keeps.drew {a b : World} (h : Keeps a b) : Keeps a b.drew := Below.drew h
theorem Keeps.drewN {a b : World} (h : Keeps a b) (n : Nat) : Keeps a (b.drewN n) := below_drewN h n
theorem Keeps.alloc {a b : World} (h : Keeps a b) (o : Obj) : Keeps a (b.alloc o) := Below.alloc h (Below.size h) o
theorem Keeps.setCell {a b : World} (h : Keeps a b) {p : Addr} (hp : a.heap.size ≤ p.block) (u : Value) : Keeps a (b.setCell p u) := Below.setCell h hp u
theorem Keeps.cell {a b : World} (h : Keeps a b) {p : Addr} {v : Value} (hc : a.cell? p = some v) : b.cell? p = some v := (Below.cell h (World.block_lt_of_cell? _ _ hc)).trans hc

/-- A call that answers v and leaves all that was there as it was. -/
def Ret (v : Value) (w : World) (e : Ending) (w' : World) : Prop := e = .returned v ∧ Keeps w w'
theorem Ret.of {b b' : Value} {w w' : World} (h : b' = b) (k : Keeps w w') : Ret b w (.returned b') w' := ⟨by rw [h], k⟩

theorem Ret.int {k : IntKind} {x y : Int} {w w' : World} (h : x = y) (q : Keeps w w') : Ret (.int k y) w (.returned (.int k x)) w' := ⟨by rw [h], q⟩
theorem Ret.bool {x y : Bool} {w w' : World} (h : x = y) (q : Keeps w w') : Ret (.bool y) w (.returned (.bool x)) w' := ⟨by rw [h], q⟩

def S (l : List UInt8) : ByteArray := ⟨l.toArray⟩
theorem S_data (l : List UInt8) : (S l).data.toList = l := rfl
theorem S_size (l : List UInt8) : (S l).size = l.length := rfl
theorem S_of (s : ByteArray) : S s.data.toList = s := rfl
/-- Blocks that were there stand as they stood, but for those of a list. -/
structure Only (X : List Nat) (w w' : World) : Prop where
  os : w'.os = w.os
  tape : w'.tape = w.tape
  output : w'.output = w.output
  size : w.heap.size ≤ w'.heap.size
  block : ∀ i, i < w.heap.size → i ∉ X → w'.heap[i]? = w.heap[i]?
theorem Only.refl (X : List Nat) (w : World) : Only X w w := ⟨rfl, rfl, rfl, Nat.le_refl _, fun _ _ _ => rfl⟩
theorem Only.trans {X : List Nat} {a b c : World} (h : Only X a b) (k : Only X b c) : Only X a c :=
  ⟨k.os.trans h.os, k.tape.trans h.tape, k.output.trans h.output, Nat.le_trans h.size k.size, fun i hi hx => (k.block i (Nat.lt_of_lt_of_le hi h.size) hx).trans (h.block i hi hx)⟩
theorem Only.mono {X Y : List Nat} {a b : World} (h : Only X a b) (s : ∀ i, i ∈ X → i ∈ Y) : Only Y a b :=
  ⟨h.os, h.tape, h.output, h.size, fun i hi hx => h.block i hi (fun e => hx (s i e))⟩
theorem Only.keeps {X : List Nat} {a b c : World} (h : Only X a b) (k : Keeps b c) : Only X a c :=
  ⟨k.os.trans h.os, k.tape.trans h.tape, k.output.trans h.output, Nat.le_trans h.size k.size, fun i hi hx => (k.block i (Nat.lt_of_lt_of_le hi h.size)).trans (h.block i hi hx)⟩
theorem Keeps.only {X : List Nat} {a b c : World} (h : Keeps a b) (k : Only X b c) (hx : ∀ i, i ∈ X → a.heap.size ≤ i) : Keeps a c :=
  ⟨k.os.trans h.os, k.tape.trans h.tape, k.output.trans h.output, Nat.le_trans h.size k.size, fun i hi => (k.block i (Nat.lt_of_lt_of_le hi h.size) (fun e => Nat.not_lt.2 (hx i e) hi)).trans (h.block i hi)⟩
theorem Only.drew {X : List Nat} {a b : World} (h : Only X a b) : Only X a b.drew := ⟨h.os, h.tape, h.output, h.size, h.block⟩
theorem Only.drewN {X : List Nat} {a b : World} (h : Only X a b) (n : Nat) : Only X a (b.drewN n) := h.keeps ((Keeps.refl b).drewN n)
theorem Only.alloc {X : List Nat} {a b : World} (h : Only X a b) (o : Obj) : Only X a (b.alloc o) := h.keeps ((Keeps.refl b).alloc o)
theorem Only.set {X : List Nat} {a b : World} (h : Only X a b) (p : Addr) (hp : p.block ∈ X ∨ a.heap.size ≤ p.block) (u : Value) : Only X a (b.setCell p u) :=
  ⟨h.os, h.tape, h.output, by simpa using h.size, fun i hi hx => by
    rw [Below.heap_setCell b p u i (fun e => by rcases hp with hp | hp; · exact hx (e ▸ hp)
                                                · omega)]
    exact h.block i hi hx⟩

theorem Keeps.ofDrew {w w2 : World} (k : Keeps w.drew w2) : Keeps w w2 := ⟨k.os, k.tape, k.output, k.size, k.block⟩
theorem al_lt {w : World} (o : Obj) {i : Nat} (h : i < w.heap.size) : (w.alloc o).heap[i]? = w.heap[i]? := Below.heap_alloc _ _ _ h
theorem al_at {w : World} (o : Obj) {i : Nat} (h : i = w.heap.size) : (w.alloc o).heap[i]? = some o := h ▸ heap_alloc_new w o
theorem cell_al {w : World} {p : Addr} {v : Value} (h : w.cell? p = some v) (o : Obj) : (w.alloc o).cell? p = some v := (World.cell?_alloc_lt _ _ _ (World.block_lt_of_cell? w p h)).trans h
theorem blk_lt {w : World} {i : Nat} {o : Obj} (h : w.heap[i]? = some o) : i < w.heap.size := (Array.getElem?_eq_some_iff.1 h).1
theorem Only.grown {X : List Nat} {a b c : World} {row : Option Nat} (h : Only X a b) (g : b.grownBy c row) (hr : ∀ k, row = some k → k ∈ X ∨ a.heap.size ≤ k) : Only X a c :=
  ⟨g.os.trans h.os, g.tape.trans h.tape, g.output.trans h.output, Nat.le_trans h.size g.size, fun i hi hx => (g.block i (Nat.lt_of_lt_of_le hi h.size) (fun e => by
    rcases hr i e.symm with h1 | h1
    · exact hx h1
    · omega)).trans (h.block i hi hx)⟩
theorem Keeps.of_only {a b : World} (h : Only [] a b) : Keeps a b := ⟨h.os, h.tape, h.output, h.size, fun i hi => h.block i hi (by simp)⟩

/-- The cells of an action, of a note. -/
def actC (a : Act) : Array Value := #[.int .i64 a.kind, .string (S a.room), .string (S a.subj), .string (S a.reason), .string (S a.deny)]
def ntC (n : Nt) : Array Value := #[.int .i64 n.kind, .int .i64 n.txn, .int .i64 n.act.kind, .string (S n.act.room), .string (S n.act.subj), .string (S n.act.reason), .string (S n.act.deny), .int .i64 n.code, .string (S n.text)]
/-- Cells, one after the other. -/
def CellsAt (w : World) (g o : Nat) (vs : List Value) : Prop := ∀ (j : Nat) (v : Value), vs[j]? = some v → w.cell? ⟨g, o + j, none⟩ = some v
theorem CellsAt.keeps {w w' : World} {g o : Nat} {vs : List Value} (h : CellsAt w g o vs) (k : Keeps w w') : CellsAt w' g o vs := fun j v hj => k.cell (h j v hj)
theorem CellsAt.of {w : World} {g : Nat} {cs : Array Value} {t : TypeId} (h : w.heap[g]? = some (.cells cs t (0, 0))) : CellsAt w g 0 cs.toList := fun j v hj => by
  rw [Nat.zero_add, Lib.cell_of_heap h]
  simpa using hj
theorem CellsAt.nine {w : World} {g o : Nat} {n : Nt} (h : CellsAt w g o (ntC n).toList) :
    w.cell? ⟨g, o, none⟩ = some (.int .i64 n.kind) ∧ w.cell? ⟨g, o + 1, none⟩ = some (.int .i64 n.txn) ∧ w.cell? ⟨g, o + 2, none⟩ = some (.int .i64 n.act.kind) ∧ w.cell? ⟨g, o + 3, none⟩ = some (.string (S n.act.room)) ∧ w.cell? ⟨g, o + 4, none⟩ = some (.string (S n.act.subj)) ∧ w.cell? ⟨g, o + 5, none⟩ = some (.string (S n.act.reason)) ∧ w.cell? ⟨g, o + 6, none⟩ = some (.string (S n.act.deny)) ∧ w.cell? ⟨g, o + 7, none⟩ = some (.int .i64 n.code) ∧ w.cell? ⟨g, o + 8, none⟩ = some (.string (S n.text)) :=
  ⟨h 0 _ rfl, h 1 _ rfl, h 2 _ rfl, h 3 _ rfl, h 4 _ rfl, h 5 _ rfl, h 6 _ rfl, h 7 _ rfl, h 8 _ rfl⟩
/-- A block that holds a note. -/
def NtB (w : World) (g : Nat) (n : Nt) : Prop := w.heap[g]? = some (.cells (ntC n) 29 (0, 0))
theorem NtB.new (w : World) (n : Nt) : NtB (w.alloc (.cells (ntC n) 29)) w.heap.size n := heap_alloc_new w _
theorem NtB.keeps {w w' : World} {g : Nat} {n : Nt} (h : NtB w g n) (k : Keeps w w') : NtB w' g n := (k.block g (blk_lt h)).trans h
theorem NtB.only {X : List Nat} {w w' : World} {g : Nat} {n : Nt} (h : NtB w g n) (k : Only X w w') (hx : g ∉ X) : NtB w' g n := (k.block g (blk_lt h) hx).trans h
theorem NtB.cells {w : World} {g : Nat} {n : Nt} (h : NtB w g n) :
    w.cell? ⟨g, 0, none⟩ = some (.int .i64 n.kind) ∧ w.cell? ⟨g, 1, none⟩ = some (.int .i64 n.txn) ∧ w.cell? ⟨g, 2, none⟩ = some (.int .i64 n.act.kind) ∧ w.cell? ⟨g, 3, none⟩ = some (.string (S n.act.room)) ∧ w.cell? ⟨g, 4, none⟩ = some (.string (S n.act.subj)) ∧ w.cell? ⟨g, 5, none⟩ = some (.string (S n.act.reason)) ∧ w.cell? ⟨g, 6, none⟩ = some (.string (S n.act.deny)) ∧ w.cell? ⟨g, 7, none⟩ = some (.int .i64 n.code) ∧ w.cell? ⟨g, 8, none⟩ = some (.string (S n.text)) := by
  have := (CellsAt.of h).nine
  simpa using this
/-- Notes in memory, one after the other. -/
def NotesAt (w : World) (A : Option Addr) (l : List Nt) : Prop := ∀ (i : Nat) (hi : i < l.length), ∃ g o, A = some ⟨g, o, none⟩ ∧ CellsAt w g (o + i * 9) (ntC (l[i]'hi)).toList
theorem NotesAt.keeps {w w' : World} {A : Option Addr} {l : List Nt} (h : NotesAt w A l) (k : Keeps w w') : NotesAt w' A l := fun i hi => by
  obtain ⟨g, o, e, hc⟩ := h i hi
  exact ⟨g, o, e, hc.keeps k⟩
/-- What fits into memory. -/
def NtOk (n : Nt) : Prop := (Lit.int .i64 n.txn).wf = true
end Go.Proofs.YtfapilgmgjmfeaaGreatDoor
