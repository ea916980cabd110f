/-
  The contracts of close and start of package nfa: a set of states as a row of truth values.
-/
import Derived.Test.YtmcogncpncfpmaaDoorObj
namespace Go.Proofs.YtmcogncpncfpmaaDoor
open Go.RowKit

theorem grow_refl (w : World) (r : Option Nat) : w.grownBy w r := ⟨rfl, rfl, rfl, Nat.le_refl _, fun _ _ _ => rfl⟩
theorem grow_set {w a : World} {B : Nat} (h : w.grownBy a (some B)) (k : Nat) (v : Value) : w.grownBy (a.setCell ⟨B, k, none⟩ v) (some B) :=
  ⟨h.os, h.tape, h.output, by simpa [World.setCell] using h.size, fun j hj hne => (Below.heap_setCell _ _ _ j (fun e => hne (by rw [e]))).trans (h.block j hj hne)⟩
theorem grow_below {w w' : World} {B : Nat} (h : w.grownBy w' (some B)) (hB : B ≤ w.heap.size) : Below B w w' := (Below.refl B w).grown h hB (fun k e => by cases e; exact Nat.le_refl _)

set_option maxHeartbeats 1000000 in
theorem close_any (P B c : Nat) (N : List UInt8) (f : Nat → Bool) (w : World) (hN : N.length ≤ 300) (h1 : w.cell? ⟨P, 1, none⟩ = some (.string (S N))) (hr : RowB w B (N.length + 1) f) (hPB : P < B) :
    Calls Tryd.prog 29 #[.pointer (some ⟨P, 0, none⟩), .slice (some ⟨B, 0, none⟩) (N.length + 1) c] w (fun e w' => e = .returned (.tuple #[]) ∧ RowB w' B (N.length + 1) (cloF N f) ∧ w.grownBy w' (some B)) := by
  have HA := Lib.hid (fun k (hk : k < (S N).size) => getD_at (S N) k hk)
  simp only [S_data] at HA
  have HZ := Lib.hid (S_size N)
  rw [← S_size N] at hN hr ⊢
  have hH := Lib.hid (fun k => clTo_hit N f k)
  have hM := Lib.hid (fun k => clTo_miss N f k)
  have h0 := Lib.hid (clTo_zero N f)
  have hE := Lib.hid (fun k j => clTo_end N f k j)
  have hAt := Lib.hid (fun k => clTo_at N f k)
  have hSt : Hid (∀ k (hk : k < (S N).size), starB N k = ((S N)[k].toNat == 42)) := Lib.hid (fun k hk => by unfold starB; rw [HA.out k hk])
  have HR := Lib.hid hr
  clear hr
  generalize S N = s at *
  go_enter Tryd.func29, Tryd.ntmps29
  go_wp2
  go_loopw [10] (fun i wr => ∃ k : Nat, k ≤ s.size ∧ i = .int .i64 k ∧ RowB wr B (s.size + 1) (clTo N f k) ∧ w.grownBy wr (some B)) (fun i _ => s.size - (intOf i).toNat)
  case atStart => exact ⟨0, Nat.zero_le _, rfl, by rw [h0.out]; exact HR.out, grow_refl _ _⟩
  case round =>
    obtain ⟨k, hk, rfl, hrow, hb⟩ := hrel
    have d1 := hb.cell h1 (by simp; omega)
    clear h1
    by_cases hlt : k < s.size
    · have hc := (hrow k (by omega)).1
      have hc' := (hrow (k + 1) (by omega)).1
      have hf' := (hrow (k + 1) (by omega)).2
      have HW := Lib.hid hrow
      clear hrow
      rw [hAt.out] at hc
      have hst := hSt.out k hlt
      have HH := Lib.hid (hH.out k)
      have HM := Lib.hid (hM.out k)
      generalize cloF N f k = b at hc HH HM
      generalize starB N k = st at hst HH HM
      generalize clTo N f k (k + 1) = b' at hc'
      cases b
      · clear hst
        go_wp2
        go_roundw
        case rel => exact ⟨k + 1, by omega, by go_num, by rw [HM.out rfl]; exact HW.out, hb⟩
        case measure => simp [intOf]; omega
      · by_cases h42 : s[k].toNat = 42
        · have e : st = true := by rw [hst]; simp [h42]
          clear hst
          subst e
          go_wp2
          go_roundw
          case rel => exact ⟨k + 1, by omega, by go_num, by rw [HH.out rfl rfl]; exact HW.out.set (by omega), grow_set hb _ _⟩
          case measure => simp [intOf]; omega
        · have e : st = false := by rw [hst]; simp [h42]
          clear hst
          subst e
          go_wp2
          go_roundw
          case rel => exact ⟨k + 1, by omega, by go_num, by rw [HM.out rfl]; exact HW.out, hb⟩
          case measure => simp [intOf]; omega
    · obtain rfl : k = s.size := by omega
      have HW := Lib.hid hrow
      clear hrow
      go_wp2
      go_end0
      exact ⟨rfl, HW.out.congr (fun j hj => hE.out _ _ (by omega)), hb⟩

theorem infoQ : (Tryd.prog.info? 4).map (fun i => (i.zero, i.size, i.bytes)) = some (some (.bool false), 1, 1) := by kernel_rfl

/-- A new row of truth values, all false. -/
theorem make_set (t : TypeId) (ht : Tryd.prog.underlying t = some (.slice 4)) (w : World) (m : Nat) (hm : m ≤ 100000) : ∃ W1, (∀ x : Int, x = m → (Instr.makeSlice t (.int .i64 x) (.int .i64 x)).run Tryd.prog w = .ok (.slice (some ⟨w.heap.size, 0, none⟩) m m) W1) ∧ RowB W1 w.heap.size m (fun _ => false) ∧ Keeps w W1 := by
  obtain ⟨i0, hi, hz0, hz1, hz2⟩ := info_parts infoQ
  obtain ⟨W1, hr, ho, hg⟩ := run_make_full (P := Tryd.prog) w w.heap.size t 4 i0 (.bool false) 1 ht hi hz0 hz1 .i64 .i64 m (by rw [hz2]; omega) (by unfold maxLen; omega) (Nat.le_refl _)
  refine ⟨W1, fun x hx => by rw [hx]; exact hr, ?_, (Keeps.refl w).grown hg (Nat.le_refl _) (fun k e => by cases e)⟩
  intro j hj
  refine ⟨?_, ho.frozenAt j⟩
  rw [ho.cellAt j (by omega)]
  show (madeCells #[.bool false] (m * 1)).toList[j]? = _
  rw [toList_madeCells_one]
  simp [hj]

theorem make_at (t : TypeId) (ht : Tryd.prog.underlying t = some (.slice 4)) (m : Nat) (hm : m ≤ 100000) (w : World) : (Instr.makeSlice t (.int .i64 (m : Int)) (.int .i64 (m : Int))).run Tryd.prog w = .ok (.slice (some ⟨w.heap.size, 0, none⟩) m m) (w.alloc (.cells (madeCells #[.bool false] m) 4)) := by
  obtain ⟨i0, hi, hz0, hz1, hz2⟩ := info_parts infoQ
  have h := run_make (P := Tryd.prog) w t 4 i0 (.bool false) ht hi hz0 .i64 .i64 m m (by omega) (Int.le_refl _) (by rw [hz2]; omega) (by omega)
  rw [hz1] at h
  have e : (Value.bool false).cells = #[.bool false] := rfl
  rw [e] at h
  simpa using h
theorem row_at {w : World} {B m : Nat} (h : w.heap[B]? = some (.cells (madeCells #[.bool false] m) 4 (0, 0))) : RowB w B m (fun _ => false) := by
  intro j hj
  refine ⟨?_, Lib.frozen_of_heap h j⟩
  rw [Lib.cell_of_heap h, ← Array.getElem?_toList, toList_madeCells_one]
  simp [hj]

/-- A set that a call has made: a row of its own. -/
def IsSet (w w' : World) (v : Value) (m : Nat) (f : Nat → Bool) : Prop := ∃ B c, v = .slice (some ⟨B, 0, none⟩) m c ∧ w.heap.size ≤ B ∧ RowB w' B m f

set_option maxHeartbeats 1000000 in
theorem start_any (P : Nat) (N : List UInt8) (fo : Bool) (w : World) (hN : N.length ≤ 300) (h : NfaAt w P N fo) :
    Calls Tryd.prog 18 #[.pointer (some ⟨P, 0, none⟩)] w (fun e w' => (∃ v, e = .returned v ∧ IsSet w w' v (N.length + 1) (cloF N (fun j => j == 0))) ∧ Keeps w w') := by
  have cS := Lib.hid (states_any P N fo w hN h)
  have hP := h.lt
  have h1 := h.c1
  have cC := Lib.hid (fun (B c : Nat) (f : Nat → Bool) (w1 : World) => close_any P B c N f w1 hN)
  obtain ⟨W1, hmk, hrow, hk1⟩ := make_set 42 Tryd.underlying42 w (N.length + 1) (by omega)
  have hmk' := hmk ((N.length : Int) + 1) (by omega)
  clear hmk h
  go_enter Tryd.func18, Tryd.ntmps18
  go_wp2_with fail
  refine cS.out.mono ?_
  rintro e w2 ⟨rfl, rfl⟩
  have hc0 := (hrow 0 (by omega)).1
  have hf0 := (hrow 0 (by omega)).2
  have HR := Lib.hid (hrow.set (k := 0) (by omega))
  have hB := hrow.lt (by omega)
  have K1 := Lib.hid (hk1.setCell (p := ⟨w2.heap.size, 0, none⟩) (Nat.le_refl _) (.bool true))
  clear hrow hk1
  go_wp2_with fail
  refine (cC.out _ _ _ _ (K1.out.cell h1) HR.out hP).mono ?_
  rintro e w3 ⟨rfl, hr3, hb3⟩
  have HR3 := Lib.hid hr3
  clear hr3
  go_wp2
  go_ret
  refine ⟨⟨_, rfl, w2.heap.size, _, rfl, Nat.le_refl _, ?_⟩, Below.trans K1.out (grow_below hb3 (by simp only [World.setCell, Array.size_modify]; omega))⟩
  have e : upd (fun _ => false) 0 = fun j => j == 0 := by funext j; simp [upd]
  rw [← e]
  exact HR3.out
end Go.Proofs.YtmcogncpncfpmaaDoor
