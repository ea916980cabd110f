/-
  The reader of package json: what changes, and its small methods.
-/
import Derived.Test.YtljkeladdplhlaaDoorJpu
import Derived.Test.YtljkeladdplhlaaDoorWrd
import Derived.Test.YtljkeladdplhlaaDoorUnq
import Derived.Deep.QuietTactic
import Derived.BigQuiet
import Derived.BigRegion
import Derived.StillTailTactics
import Derived.IntWalk
namespace Go.Proofs.YtljkeladdplhlaaDoor
open Go.RowKit

/-- Blocks that were there stand as they stood, but for those of a list. -/
structure Only (X : List Nat) (w w' : World) : Prop where
  os : w'.os = w.os
  tape : w'.tape = w.tape
  output : w'.output = w.output
  size : w.heap.size ≤ w'.heap.size
  block : ∀ i, i < w.heap.size → i ∉ X → w'.heap[i]? = w.heap[i]?
theorem Only.refl (X : List Nat) (w : World) : Only X w w := ⟨rfl, rfl, rfl, Nat.le_refl _, fun _ _ _ => rfl⟩
theorem Only.trans {X : List Nat} {a b c : World} (h : Only X a b) (k : Only X b c) : Only X a c :=
  ⟨k.os.trans h.os, k.tape.trans h.tape, k.output.trans h.output, Nat.le_trans h.size k.size, fun i hi hx => (k.block i (Nat.lt_of_lt_of_le hi h.size) hx).trans (h.block i hi hx)⟩
theorem Only.mono {X Y : List Nat} {a b : World} (h : Only X a b) (s : ∀ i, i ∈ X → i ∈ Y) : Only Y a b :=
  ⟨h.os, h.tape, h.output, h.size, fun i hi hx => h.block i hi (fun e => hx (s i e))⟩
theorem Only.keeps {X : List Nat} {a b c : World} (h : Only X a b) (k : Keeps b c) : Only X a c :=
  ⟨k.os.trans h.os, k.tape.trans h.tape, k.output.trans h.output, Nat.le_trans h.size k.size, fun i hi hx => (k.block i (Nat.lt_of_lt_of_le hi h.size)).trans (h.block i hi hx)⟩
theorem Keeps.only {X : List Nat} {a b c : World} (h : Keeps a b) (k : Only X b c) (hx : ∀ i, i ∈ X → a.heap.size ≤ i) : Keeps a c :=
  ⟨k.os.trans h.os, k.tape.trans h.tape, k.output.trans h.output, Nat.le_trans h.size k.size, fun i hi => (k.block i (Nat.lt_of_lt_of_le hi h.size) (fun e => Nat.not_lt.2 (hx i e) hi)).trans (h.block i hi)⟩
theorem Only.drew {X : List Nat} {a b : World} (h : Only X a b) : Only X a b.drew := ⟨h.os, h.tape, h.output, h.size, h.block⟩
theorem Only.drewN {X : List Nat} {a b : World} (h : Only X a b) (n : Nat) : Only X a (b.drewN n) := h.keeps ((Keeps.refl b).drewN n)
theorem Only.alloc {X : List Nat} {a b : World} (h : Only X a b) (o : Obj) : Only X a (b.alloc o) := h.keeps ((Keeps.refl b).alloc o)
theorem Only.set {X : List Nat} {a b : World} (h : Only X a b) (p : Addr) (hp : p.block ∈ X ∨ a.heap.size ≤ p.block) (u : Value) : Only X a (b.setCell p u) :=
  ⟨h.os, h.tape, h.output, by simpa using h.size, fun i hi hx => by
    rw [Below.heap_setCell b p u i (fun e => by rcases hp with hp | hp; · exact hx (e ▸ hp)
                                                · omega)]
    exact h.block i hi hx⟩

/-- The reader: its text, and how far it is. -/
def Rd (w : World) (r : Nat) (s : ByteArray) (a : Nat) : Prop := w.heap[r]? = some (.cells #[.string s, .int .i64 (a : Int)] 49 (0, 0))
theorem Rd.lt {w : World} {r : Nat} {s : ByteArray} {a : Nat} (h : Rd w r s a) : r < w.heap.size := (Array.getElem?_eq_some_iff.1 h).1
theorem Rd.text {w : World} {r : Nat} {s : ByteArray} {a : Nat} (h : Rd w r s a) : w.cell? ⟨r, 0, none⟩ = some (.string s) := by rw [Lib.cell_of_heap h]; rfl
theorem Rd.at {w : World} {r : Nat} {s : ByteArray} {a : Nat} (h : Rd w r s a) : w.cell? ⟨r, 1, none⟩ = some (.int .i64 (a : Int)) := by rw [Lib.cell_of_heap h]; rfl
theorem Rd.free {w : World} {r : Nat} {s : ByteArray} {a : Nat} (h : Rd w r s a) : w.frozen? ⟨r, 1, none⟩ = false := Lib.frozen_of_heap h 1
theorem Rd.keeps {w w' : World} {r : Nat} {s : ByteArray} {a : Nat} (h : Rd w r s a) (k : Keeps w w') : Rd w' r s a := (k.block r h.lt).trans h
theorem Rd.only {X : List Nat} {w w' : World} {r : Nat} {s : ByteArray} {a : Nat} (h : Rd w r s a) (k : Only X w w') (hx : r ∉ X) : Rd w' r s a := (k.block r h.lt hx).trans h
theorem Rd.put {w : World} {r : Nat} {s : ByteArray} {a b : Nat} (h : Rd w r s a) : Rd (w.setCell ⟨r, 1, none⟩ (.int .i64 (b : Int))) r s b := by
  unfold Rd
  rw [heap_setCell_same w r 1 _ 49 _ h]
  rfl
theorem Rd.putI {w : World} {r : Nat} {s : ByteArray} {a b : Nat} {x : Int} (h : Rd w r s a) (e : x = (b : Int)) : Rd (w.setCell ⟨r, 1, none⟩ (.int .i64 x)) r s b := by rw [e]; exact h.put

theorem drop_drop_ext (s : ByteArray) (a : Nat) : (s.extract a s.size).data.toList = s.data.toList.drop a := ext_drop s a

set_option maxHeartbeats 2000000 in
theorem ended_any (r : Nat) (s : ByteArray) (a : Nat) (w : World) (h : Rd w r s a) : Calls Tryd.prog 49 #[.pointer (some ⟨r, 0, none⟩)] w (fun e w' => e = .returned (.bool ((a : Int) == (s.size : Int))) ∧ ∃ k, w' = w.drewN k) := by
  have c0 := h.text
  have c1 := h.at
  clear h
  go_enter Tryd.func49, Tryd.ntmps49
  go_wp2
  go_quiet (fail)
  go_wp2
  go_ret
  exact ⟨rfl, _, rfl⟩

theorem spaceL_le (l : List UInt8) : spaceL l ≤ l.length := by
  unfold spaceL
  exact (List.takeWhile_prefix blankB).length_le

set_option maxHeartbeats 4000000 in
theorem skip_any (r : Nat) (s : ByteArray) (a : Nat) (w : World) (h : Rd w r s a) (ha : a ≤ s.size) (hs : s.size ≤ 1000000) : Calls Tryd.prog 88 #[.pointer (some ⟨r, 0, none⟩)] w (fun e w' => e = .returned (.tuple #[]) ∧ Rd w' r s (a + spaceL (s.data.toList.drop a)) ∧ Only [r] w w') := by
  have cS : Hid (∀ w1, Calls Tryd.prog 29 #[.string (s.extract a s.size)] w1 (fun e w' => e = .returned (.int .i64 (spaceL (s.data.toList.drop a) : Int)) ∧ w' = w1)) := Lib.hid (fun w1 => by
    have := space_any (s.extract a s.size) w1 (by simp; omega)
    rwa [ext_drop] at this)
  have hle : spaceL (s.data.toList.drop a) ≤ s.size := by have := spaceL_le (s.data.toList.drop a); simp at this; omega
  have c0 := h.text
  have c1 := h.at
  have f1 := h.free
  have HH := Lib.hid h
  generalize spaceL (s.data.toList.drop a) = n at *
  have q0 : (0 : Int) ≤ (a : Int) := by omega
  have q1 : (a : Int) ≤ (s.size : Int) := by omega
  have w1 : IntKind.i64.wrap ((a : Int) + (n : Int)) = (a : Int) + (n : Int) := IntWalk.i64_in _ (by omega)
  clear h ha
  go_enter Tryd.func88, Tryd.ntmps88
  go_wp2
  go_region_with (go_at_call 29; refine (cS.out _).mono ?_; rintro e w2 ⟨rfl, rfl⟩)
  all_goals (go_wp2; go_end0; exact ⟨rfl, HH.out.putI (by omega), ((Only.refl _ _).set _ (.inl (by simp)) _).drew⟩)

theorem Keeps.ofDrew {w w2 : World} (k : Keeps w.drew w2) : Keeps w w2 := ⟨k.os, k.tape, k.output, k.size, k.block⟩

set_option maxHeartbeats 4000000 in
theorem key_any (r : Nat) (s : ByteArray) (a : Nat) (w : World) (h : Rd w r s a) (hu : Utf w) (ha : a ≤ s.size) (hs : s.size ≤ 100000) (hn : (unqL (s.data.toList.drop a)).2.1 ≤ s.size) : Calls Tryd.prog 76 #[.pointer (some ⟨r, 0, none⟩)] w (fun e w' => e = .returned (.tuple #[.string (S (unqL (s.data.toList.drop a)).1), .int .i64 ((unqL (s.data.toList.drop a)).2.2 : Int)]) ∧ Rd w' r s (a + (unqL (s.data.toList.drop a)).2.1) ∧ Only [r] w w') := by
  have cS : Hid (∀ w1, Utf w1 → Calls Tryd.prog 85 #[.string (s.extract a s.size)] w1 (RetU (unqL (s.data.toList.drop a)) w1)) := Lib.hid (fun w1 h1 => by
    have := unq_any (s.extract a s.size) w1 h1 (by simp; omega)
    rwa [ext_drop] at this)
  have c0 := h.text
  have c1 := h.at
  have HU := Lib.hid hu
  have HH := Lib.hid h
  generalize unqL (s.data.toList.drop a) = p at *
  obtain ⟨p0, p1, p2⟩ := p
  simp only at hn
  have q0 : (0 : Int) ≤ (a : Int) := by omega
  have q1 : (a : Int) ≤ (s.size : Int) := by omega
  clear h hu
  go_enter Tryd.func76, Tryd.ntmps76
  go_wp2
  go_region_with (go_at_call 85; refine (cS.out _ (by first | exact HU.out | exact HU.out.keeps (Keeps.refl _).drew | exact HU.out.keeps ((Keeps.refl _).drewN _))).mono ?_; rintro e w2 ⟨rfl, hk⟩)
  all_goals (have hk := (by first | exact hk | exact Keeps.ofDrew hk : Keeps w w2); have hR : Rd w2 r s a := HH.out.keeps hk; have hO : Only [r] w w2 := (Only.refl [r] w).keeps hk; have HR := Lib.hid hR; have HO := Lib.hid hO; have d1 := hR.at; have d2 : w2.drew.frozen? ⟨r, 1, none⟩ = false := hR.free; have d3 := hR.free; clear hk hR hO c0 c1; go_wp2; go_ret2; first | exact ⟨rfl, Rd.putI HR.out (by omega), HO.out.set _ (.inl (List.mem_singleton.2 rfl)) _⟩ | exact ⟨rfl, Rd.putI (w := w2.drew) HR.out (by omega), HO.out.drew.set _ (.inl (List.mem_singleton.2 rfl)) _⟩)
end Go.Proofs.YtljkeladdplhlaaDoor
