/-
  Rows of bytes of the call's own, read back as a text.
-/
import Derived.Test.YtpcfcbaapnkanaaNum
import Derived.Lib.AppendStr
import Derived.Laws.IdiomStrings
namespace Go.Proofs.Ytpcfcbaapnkanaa
open Go.RowKit

/-- A row of bytes in block g. -/
def RowIs (w : World) (g : Nat) (l : List UInt8) : Prop := ∀ j, j < l.length → w.cell? ⟨g, j, none⟩ = some (.int .u8 ((l.getD j 0).toNat : Int)) ∧ w.frozen? ⟨g, j, none⟩ = false

theorem Owns.row {w : World} {B : Nat} {v : Value} {l : List UInt8} (h : Owns w B v l) (hl : 0 < l.length) : ∃ g cap, v = .slice (some ⟨g, 0, none⟩) l.length cap ∧ B ≤ g ∧ g < w.heap.size ∧ RowIs w g l := by
  have h0 := h
  obtain ⟨_, hv⟩ := h
  rcases hv with ⟨_, hn⟩ | ⟨g, cap, cur, rfl, hb, hheap, _, _, _, _⟩
  · omega
  · have hlt : g < w.heap.size := by
      rcases Nat.lt_or_ge g w.heap.size with h | h
      · exact h
      · rw [Array.getElem?_eq_none h] at hheap; cases hheap
    refine ⟨g, cap, rfl, hb, hlt, fun j hj => ⟨?_, ?_⟩⟩
    · have := World.ownsRow.cells h0 (g := g) rfl j (.int .u8 ((l.getD j 0).toNat : Int)) (by simp [bv, hj])
      have ea : (⟨g, 0, none⟩ : Addr).add j = ⟨g, j, none⟩ := by
        unfold Addr.add; split <;> simp_all
      rwa [ea] at this
    · simp [World.frozen?, hheap]

theorem conv_back (w : World) (g cap n : Nat) (l : List UInt8) (hn : n = l.length) (h : RowIs w g l) : (convert 48 9 (.slice (some ⟨g, 0, none⟩) n cap)).run Try.prog w = .ok (.string (S l)) w := by
  subst hn
  refine run_convert_bytes_back (P := Try.prog) w 48 9 5 ⟨g, 0, none⟩ cap l Try.underlying48 Try.underlying5 Try.underlying9 ?_
  intro j hj
  have := (h j hj).1
  have ea : (⟨g, 0, none⟩ : Addr).add j = ⟨g, j, none⟩ := by
    unfold Addr.add; split <;> simp_all
  rw [ea, this]
  simp [hj]

theorem conv_owned {w : World} {B : Nat} {v : Value} {l : List UInt8} (h : Owns w B v l) (hl : 0 < l.length) : (convert 48 9 v).run Try.prog w = .ok (.string (S l)) w := by
  obtain ⟨g, cap, rfl, _, _, hr⟩ := h.row hl
  exact conv_back w g cap _ l rfl hr

/-- A slice that was built of one byte. -/
theorem owns_one (w : World) (c : UInt8) (x : Int) (h : x = (c.toNat : Int)) : Owns (w.alloc (.cells #[.int .u8 x] 5)) w.heap.size (.slice (some ⟨w.heap.size, 0, none⟩) 1 1) [c] := by
  subst h
  refine ⟨rfl, .inr ⟨w.heap.size, 1, #[.int .u8 (c.toNat : Int)], rfl, Nat.le_refl _, heap_alloc_new w _, Nat.le_refl _, by unfold maxLen; decide, rfl, rfl⟩⟩

theorem getD_set (l : List UInt8) (k j : Nat) (c : UInt8) (hk : k < l.length) : (l.set k c).getD j 0 = if k = j then c else l.getD j 0 := by
  simp only [List.getD, List.getElem?_set, hk]
  by_cases h : k = j
  · subst h; simp
  · simp [h]
theorem RowIs.set {w : World} {B : Nat} {l : List UInt8} (h : RowIs w B l) {k : Nat} (hk : k < l.length) {v : Int} {c : UInt8} (hv : v = (c.toNat : Int)) : RowIs (w.setCell ⟨B, k, none⟩ (.int .u8 v)) B (l.set k c) := by
  intro j hj
  rw [List.length_set] at hj
  rw [getD_set l k j c hk]
  refine ⟨?_, (World.frozen?_setCell _ _ _ _).trans (h j hj).2⟩
  by_cases e : k = j
  · subst e
    rw [if_pos rfl, World.cell?_setCell_same _ _ _ (h k hk).1, hv]
  · rw [if_neg e, World.cell?_setCell_other _ _ _ _ (by simp [e])]
    exact (h j hj).1
end Go.Proofs.Ytpcfcbaapnkanaa
