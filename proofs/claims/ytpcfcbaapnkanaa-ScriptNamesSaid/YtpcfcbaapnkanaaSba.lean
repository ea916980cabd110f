/-
  Scripts in memory: inputs, steps, cuts; and what the pure facts on scripts are told of.
-/
import Derived.Test.YtpcfcbaapnkanaaPsc
import Derived.Test.YtpcfcbaapnkanaaMat
import Derived.Test.YtpcfcbaapnkanaaUsr
import Derived.Deep.QuietTactic
import Derived.BigRegion
import Derived.StillTailTactics
import Derived.Laws.StructEq
namespace Go.Proofs.Ytpcfcbaapnkanaa
open Go.RowKit

theorem userB_len {l : List UInt8} (h : userB l = true) : l.length ≤ 255 := by
  unfold userB namedB at h
  split at h
  · next h1 => exact h1.2
  · cases h
/-- Inputs, as the pure facts on scripts take them. -/
def K0 : PS.Kit Inp where
  enc := Inp.bytes
  rd := fun l => if (readL l).2 = 0 then .ok (readL l).1 else .error (readL l).2
  chk := Inp.chk
  usr := userB
  rd_enc := fun x h => by rw [readL_rec x h]; rfl
  enc_rd := fun l x h => by
    rcases readL_cases l with ⟨n, hn, e⟩ | ⟨y, e, h1, h2, _⟩
    · rw [e] at h; simp [hn] at h
    · rw [e] at h; simp at h; subst h; exact ⟨h2, h1⟩
  short := fun x h => by have := (rec_len x h).1; omega
  usr_len := fun b h => by have := userB_len h; omega
abbrev St := PS.Stp Inp
abbrev Sc := PS.Scr Inp
/-- A step, with where its cuts lie. -/
structure Ms where
  s : St
  A : Option Addr
  c : Nat
/-- The cells of an input, of a step, of a script. -/
def inC (x : Inp) : Array Value := #[.int .i64 x.k, .int .i64 x.code, .int .i64 x.n, .bool x.ok, .string (S x.t)]
theorem inC_v (x : Inp) : Value.agg (inC x) = x.v := rfl
def msC (m : Ms) : Array Value := #[.bool m.s.crash, .int .i64 m.s.inp.k, .int .i64 m.s.inp.code, .int .i64 m.s.inp.n, .bool m.s.inp.ok, .string (S m.s.inp.t), .slice m.A m.s.cuts.length m.c]
def scC (bot : List UInt8) (q : Int) (A : Option Addr) (n c : Nat) : Array Value := #[.string (S bot), .int .i64 q, .slice A n c]
/-- Cells, one after the other. -/
def CellsAt (w : World) (g o : Nat) (vs : List Value) : Prop := ∀ (j : Nat) (v : Value), vs[j]? = some v → w.cell? ⟨g, o + j, none⟩ = some v
theorem CellsAt.keeps {w w' : World} {g o : Nat} {vs : List Value} (h : CellsAt w g o vs) (k : Keeps w w') : CellsAt w' g o vs := fun j v hj => k.cell (h j v hj)
theorem CellsAt.of {w : World} {g : Nat} {cs : Array Value} {t : TypeId} (h : w.heap[g]? = some (.cells cs t (0, 0))) : CellsAt w g 0 cs.toList := fun j v hj => by
  rw [Nat.zero_add, Lib.cell_of_heap h]
  simpa using hj
theorem CellsAt.seven {w : World} {g o : Nat} {m : Ms} (h : CellsAt w g o (msC m).toList) :
    w.cell? ⟨g, o, none⟩ = some (.bool m.s.crash) ∧ w.cell? ⟨g, o + 1, none⟩ = some (.int .i64 m.s.inp.k) ∧ w.cell? ⟨g, o + 2, none⟩ = some (.int .i64 m.s.inp.code) ∧ w.cell? ⟨g, o + 3, none⟩ = some (.int .i64 m.s.inp.n) ∧ w.cell? ⟨g, o + 4, none⟩ = some (.bool m.s.inp.ok) ∧ w.cell? ⟨g, o + 5, none⟩ = some (.string (S m.s.inp.t)) ∧ w.cell? ⟨g, o + 6, none⟩ = some (.slice m.A m.s.cuts.length m.c) :=
  ⟨h 0 _ rfl, h 1 _ rfl, h 2 _ rfl, h 3 _ rfl, h 4 _ rfl, h 5 _ rfl, h 6 _ rfl⟩
/-- Cuts in memory. -/
def CutsAt (w : World) (A : Option Addr) (l : List Int) : Prop := ∀ (i : Nat) (hi : i < l.length), ∃ g o, A = some ⟨g, o, none⟩ ∧ w.cell? ⟨g, o + i, none⟩ = some (.int .i64 (l[i]'hi))
theorem CutsAt.keeps {w w' : World} {A : Option Addr} {l : List Int} (h : CutsAt w A l) (k : Keeps w w') : CutsAt w' A l := fun i hi => by
  obtain ⟨g, o, e, hc⟩ := h i hi
  exact ⟨g, o, e, k.cell hc⟩
/-- A step's cuts lie where it says. -/
def MsOk (w : World) (m : Ms) : Prop := CutsAt w m.A m.s.cuts
/-- Steps in memory, one after the other. -/
def StepsAt (w : World) (A : Option Addr) (l : List Ms) : Prop := ∀ (i : Nat) (hi : i < l.length), (∃ g o, A = some ⟨g, o, none⟩ ∧ CellsAt w g (o + i * 7) (msC (l[i]'hi)).toList) ∧ MsOk w (l[i]'hi)
theorem StepsAt.keeps {w w' : World} {A : Option Addr} {l : List Ms} (h : StepsAt w A l) (k : Keeps w w') : StepsAt w' A l := fun i hi => by
  obtain ⟨⟨g, o, e, hc⟩, hm⟩ := h i hi
  exact ⟨⟨g, o, e, hc.keeps k⟩, CutsAt.keeps hm k⟩
theorem blk_lt {w : World} {i : Nat} {o : Obj} (h : w.heap[i]? = some o) : i < w.heap.size := (Array.getElem?_eq_some_iff.1 h).1
/-- A block that holds a step, a script. -/
def MsB (w : World) (g : Nat) (m : Ms) : Prop := w.heap[g]? = some (.cells (msC m) 31 (0, 0))
theorem MsB.new (w : World) (m : Ms) : MsB (w.alloc (.cells (msC m) 31)) w.heap.size m := heap_alloc_new w _
theorem MsB.keeps {w w' : World} {g : Nat} {m : Ms} (h : MsB w g m) (k : Keeps w w') : MsB w' g m := (k.block g (blk_lt h)).trans h
theorem MsB.cells {w : World} {g : Nat} {m : Ms} (h : MsB w g m) :
    w.cell? ⟨g, 0, none⟩ = some (.bool m.s.crash) ∧ w.cell? ⟨g, 1, none⟩ = some (.int .i64 m.s.inp.k) ∧ w.cell? ⟨g, 2, none⟩ = some (.int .i64 m.s.inp.code) ∧ w.cell? ⟨g, 3, none⟩ = some (.int .i64 m.s.inp.n) ∧ w.cell? ⟨g, 4, none⟩ = some (.bool m.s.inp.ok) ∧ w.cell? ⟨g, 5, none⟩ = some (.string (S m.s.inp.t)) ∧ w.cell? ⟨g, 6, none⟩ = some (.slice m.A m.s.cuts.length m.c) := by
  have := (CellsAt.of h).seven
  simpa using this
def ScB (w : World) (g : Nat) (bot : List UInt8) (q : Int) (A : Option Addr) (n c : Nat) : Prop := w.heap[g]? = some (.cells (scC bot q A n c) 25 (0, 0))
theorem ScB.new (w : World) (bot : List UInt8) (q : Int) (A : Option Addr) (n c : Nat) : ScB (w.alloc (.cells (scC bot q A n c) 25)) w.heap.size bot q A n c := heap_alloc_new w _
theorem ScB.keeps {w w' : World} {g : Nat} {bot : List UInt8} {q : Int} {A : Option Addr} {n c : Nat} (h : ScB w g bot q A n c) (k : Keeps w w') : ScB w' g bot q A n c := (k.block g (blk_lt h)).trans h
theorem ScB.cells {w : World} {g : Nat} {bot : List UInt8} {q : Int} {A : Option Addr} {n c : Nat} (h : ScB w g bot q A n c) :
    w.cell? ⟨g, 0, none⟩ = some (.string (S bot)) ∧ w.cell? ⟨g, 1, none⟩ = some (.int .i64 q) ∧ w.cell? ⟨g, 2, none⟩ = some (.slice A n c) := by
  have h2 := CellsAt.of h
  exact ⟨by have := h2 0 _ rfl; simpa using this, by have := h2 1 _ rfl; simpa using this, by have := h2 2 _ rfl; simpa using this⟩
end Go.Proofs.Ytpcfcbaapnkanaa
