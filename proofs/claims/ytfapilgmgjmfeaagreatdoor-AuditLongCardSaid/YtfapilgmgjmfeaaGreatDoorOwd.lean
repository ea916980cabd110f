/-
  Owned: the users of a room whose ban is the bot's own, in increasing order.
-/
import Derived.Test.YtfapilgmgjmfeaaGreatDoorOun
namespace Go.Proofs.YtfapilgmgjmfeaaGreatDoor
open Go.RowKit Go.Sort Go.Shelf Go.Lib

/-- A string that memory can hold. -/
abbrev St := {l : List UInt8 // l.length ≤ maxLen}
instance : Inhabited St := ⟨⟨[], by simp⟩⟩
def stV (x : St) : Value := .string (S x.1)
theorem stV_one : OneCell stV := fun x => rfl
theorem gone_call (g m N : Nat) (f : SetS) (W : World) (hb : W.heap[g]? = some (.cells #[.map (some m)] 58 (0, 0))) (hM : IsMapS boolE W m N f) (x : St) :
    Calls Tryz.prog 43 #[stV x, .pointer (some ⟨g, 0, none⟩)] W fun e w' => e = .returned (.bool (!((f x.1).getD false))) ∧ ∃ q, w' = W.drewN q := by
  have hc : W.cell? ⟨g, 0, none⟩ = some (.map (some m)) := by rw [Lib.cell_of_heap hb]; rfl
  have hlk := hM.look Tryz.underlying58 (z := false) (by kernel_rfl) x.2
  have hlk2 : (Instr.lookup 58 (.map (some m)) (.string (S x.1)) false).run Tryz.prog W = .ok (.bool ((f x.1).getD false)) W := hlk
  clear hM hlk hb
  unfold stV
  generalize (f x.1).getD false = b at *
  generalize x.1 = y at *
  go_enter Tryz.func43, Tryz.ntmps43
  go_wp2
  go_ret
  exact ⟨rfl, 0, rfl⟩
theorem heap_mapBlock_other (w : World) (blk : Nat) (f : Array Value → Array Value) {i : Nat} (h : i ≠ blk) : (mapBlock w blk f).heap[i]? = w.heap[i]? := by
  unfold mapBlock
  simp only
  rw [Array.getElem?_modify, if_neg (fun e => h e.symm)]
theorem heap_sortWorld {α : Type} [Inhabited α] (enc : α → Value) (w : World) (blk off n : Nat) (dk : Array α) (os : Array Obj) {i : Nat} (h : i ≠ blk) (hi : i < w.heap.size) : (sortWorld enc w blk off n dk os).heap[i]? = w.heap[i]? := by
  unfold sortWorld
  rw [heap_grow_old _ _ (by simpa using hi)]
  exact heap_mapBlock_other _ _ _ h
theorem only_putRow {α : Type} [Inhabited α] (enc : α → Value) (w : World) (blk off n : Nat) (dk : Array α) : Only [blk] w (putRow enc (Sort.ahead w n) blk off dk) :=
  ⟨rfl, rfl, rfl, by simp, fun i hi hx => heap_mapBlock_other _ _ _ (by simpa using hx)⟩
/-- Strings in memory, one after the other. -/
def StrsAt (w : World) (A : Option Addr) (ss : List (List UInt8)) : Prop := ∀ (i : Nat) (hi : i < ss.length), ∃ g o, A = some ⟨g, o, none⟩ ∧ w.cell? ⟨g, o + i, none⟩ = some (.string (S (ss[i]'hi)))
theorem StrsAt.keeps {w w' : World} {A : Option Addr} {ss : List (List UInt8)} (h : StrsAt w A ss) (k : Keeps w w') : StrsAt w' A ss := fun i hi => by
  obtain ⟨g, o, e, hc⟩ := h i hi
  exact ⟨g, o, e, k.cell hc⟩
set_option maxHeartbeats 2000000 in
theorem idx_nil (F : Value) (w : World) : Calls Tryz.prog 63 #[.slice none 0 0, F] w (fun e w' => e = .returned (.int .i64 (-1)) ∧ w' = w) := by
  go_enter Tryz.func63, Tryz.ntmps63
  go_wp2
  go_loopg [8] 1 (fun g i wr => i = .int .i64 0 ∧ wr = w)
  case atStart => exact ⟨rfl, rfl⟩
  case round =>
    obtain ⟨rfl, rfl⟩ := hrel
    go_wp2
    go_ret
    exact ⟨rfl, rfl⟩
theorem del_nil (F : Value) (w : World) : Calls Tryz.prog 40 #[.slice none 0 0, F] w (fun e w' => e = .returned (.slice none 0 0) ∧ w' = w) := by
  have cI := Lib.hid (idx_nil F w)
  go_enter Tryz.func40, Tryz.ntmps40
  go_wp2_with fail
  refine cI.out.mono ?_
  rintro e w2 ⟨rfl, rfl⟩
  go_wp2
  go_ret
  exact ⟨rfl, rfl⟩
def OwnedRet (room : List UInt8) (l : List Nt) (w : World) (e : Ending) (w' : World) : Prop :=
  ∃ A ss c, e = .returned (.slice A ss.length c) ∧ RiseS ss ∧ (∀ u, u ∈ ss ↔ ownB room l u = true) ∧ StrsAt w' A ss ∧ (∀ u, u ∈ ss → u.length ≤ maxLen) ∧ ss.length ≤ 1000000 ∧ ss.length ≤ c ∧ Keeps w w'
end Go.Proofs.YtfapilgmgjmfeaaGreatDoor
