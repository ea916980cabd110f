/-
  Arguments that are notes, opened.
-/
import Derived.Test.YtfapilgmgjmfeaaGreatDoorBase
import Derived.ProofKit
import Derived.OpenShut
namespace Go.Proofs.YtfapilgmgjmfeaaGreatDoor
open Go.ChangeShapes Go.WideShapes Go.ChangeAt Go.RowKit

theorem cells3 : Tryz.prog.cellsOf 3 = 1 := by kernel_rfl
theorem cells2 : Tryz.prog.cellsOf 2 = 1 := by kernel_rfl
theorem cells9 : Tryz.prog.cellsOf 9 = 1 := by kernel_rfl
theorem cells29 : Tryz.prog.cellsOf 27 = 5 := by kernel_rfl
theorem cells31 : Tryz.prog.cellsOf 29 = 9 := by kernel_rfl
/-- What memory can hold. -/
def ActFit (a : Act) : Prop := a.room.length ≤ maxLen ∧ a.subj.length ≤ maxLen ∧ a.reason.length ≤ maxLen ∧ a.deny.length ≤ maxLen
def NtFit (n : Nt) : Prop := NtOk n ∧ ActFit n.act ∧ n.text.length ≤ maxLen ∧ (Lit.int .i64 n.code).wf = true
set_option maxRecDepth 100000 in
theorem act_of {H : Type} {enc : TypeId × Value → H} {w : World} {base fuel : Nat} {sp : Nat → Bool} {hd : Bool} {cs : List Value} {x : DataW H × List MemPlace} (h : DataW.trod enc Tryz.prog w base sp hd fuel 27 cs = some x) : ∃ a : Act, cs = (actC a).toList ∧ ActFit a := by
  obtain ⟨xs, n, rfl, rfl, hl, hxl, hf⟩ := DataW.trod_struct Tryz.underlying27 h
  rw [cells29] at hl
  match cs, hl with
  | [c0, c1, c2, c3, c4], _ =>
    have hx5 : xs.length = 5 := hxl
    match xs, hx5, hf with
    | [y0, y1, y2, y3, y4], _, hf =>
      have h0 : DataW.trod enc Tryz.prog w base sp hd n 3 (List.take (Tryz.prog.cellsOf 3) [c0, c1, c2, c3, c4]) = some y0 := hf 0 _ rfl
      have h1 : DataW.trod enc Tryz.prog w base sp hd n 9 (List.take (Tryz.prog.cellsOf 9) [c1, c2, c3, c4]) = some y1 := hf 1 _ rfl
      have h2 : DataW.trod enc Tryz.prog w base sp hd n 9 (List.take (Tryz.prog.cellsOf 9) [c2, c3, c4]) = some y2 := hf 2 _ rfl
      have h3 : DataW.trod enc Tryz.prog w base sp hd n 9 (List.take (Tryz.prog.cellsOf 9) [c3, c4]) = some y3 := hf 3 _ rfl
      have h4 : DataW.trod enc Tryz.prog w base sp hd n 9 (List.take (Tryz.prog.cellsOf 9) [c4]) = some y4 := hf 4 _ rfl
      rw [cells3] at h0
      rw [cells9] at h1 h2 h3 h4
      simp only [List.take_succ_cons, List.take_zero] at h0 h1 h2 h3 h4
      obtain ⟨k, e0, _⟩ := DataW.trod_int Tryz.underlying3 h0
      obtain ⟨r, e1, _, w1⟩ := DataW.trod_string Tryz.underlying9 h1
      obtain ⟨s, e2, _, w2⟩ := DataW.trod_string Tryz.underlying9 h2
      obtain ⟨c, e3, _, w3⟩ := DataW.trod_string Tryz.underlying9 h3
      obtain ⟨d, e4, _, w4⟩ := DataW.trod_string Tryz.underlying9 h4
      simp only [List.cons.injEq, and_true] at e0 e1 e2 e3 e4
      subst e0 e1 e2 e3 e4
      exact ⟨⟨k, r.data.toList, s.data.toList, c.data.toList, d.data.toList⟩, rfl, by simpa using w1, by simpa using w2, by simpa using w3, by simpa using w4⟩
set_option maxRecDepth 100000 in
theorem note_of {H : Type} {enc : TypeId × Value → H} {w : World} {base fuel : Nat} {sp : Nat → Bool} {hd : Bool} {cs : List Value} {x : DataW H × List MemPlace} (h : DataW.trod enc Tryz.prog w base sp hd fuel 29 cs = some x) : ∃ n : Nt, cs = (ntC n).toList ∧ NtFit n := by
  obtain ⟨xs, n, rfl, rfl, hl, hxl, hf⟩ := DataW.trod_struct Tryz.underlying29 h
  rw [cells31] at hl
  match cs, hl with
  | [c0, c1, c2, c3, c4, c5, c6, c7, c8], _ =>
    have hx5 : xs.length = 5 := hxl
    match xs, hx5, hf with
    | [y0, y1, y2, y3, y4], _, hf =>
      have h0 : DataW.trod enc Tryz.prog w base sp hd n 3 (List.take (Tryz.prog.cellsOf 3) [c0, c1, c2, c3, c4, c5, c6, c7, c8]) = some y0 := hf 0 _ rfl
      have h1 : DataW.trod enc Tryz.prog w base sp hd n 2 (List.take (Tryz.prog.cellsOf 2) [c1, c2, c3, c4, c5, c6, c7, c8]) = some y1 := hf 1 _ rfl
      have h2 : DataW.trod enc Tryz.prog w base sp hd n 27 (List.take (Tryz.prog.cellsOf 27) [c2, c3, c4, c5, c6, c7, c8]) = some y2 := hf 2 _ rfl
      have h3 : DataW.trod enc Tryz.prog w base sp hd n 3 (List.take (Tryz.prog.cellsOf 3) [c7, c8]) = some y3 := hf 3 _ rfl
      have h4 : DataW.trod enc Tryz.prog w base sp hd n 9 (List.take (Tryz.prog.cellsOf 9) [c8]) = some y4 := hf 4 _ rfl
      rw [cells3] at h0 h3
      rw [cells2] at h1
      rw [cells29] at h2
      rw [cells9] at h4
      simp only [List.take_succ_cons, List.take_zero] at h0 h1 h2 h3 h4
      obtain ⟨k, e0, _⟩ := DataW.trod_int Tryz.underlying3 h0
      obtain ⟨t, e1, _, wt⟩ := DataW.trod_int Tryz.underlying2 h1
      obtain ⟨a, e2, wa⟩ := act_of h2
      obtain ⟨c, e3, _, wc⟩ := DataW.trod_int Tryz.underlying3 h3
      obtain ⟨x, e4, _, wx⟩ := DataW.trod_string Tryz.underlying9 h4
      simp only [List.cons.injEq, and_true, actC] at e0 e1 e2 e3 e4
      obtain ⟨e20, e21, e22, e23, e24⟩ := e2
      subst e0 e1 e20 e21 e22 e23 e24 e3 e4
      exact ⟨⟨k, t, a, c, x.data.toList⟩, rfl, wt, wa, by simpa using wx, wc⟩
set_option maxRecDepth 100000 in
theorem open_note {H : Type} {enc : TypeId × Value → H} {W : World} {base b0 : Nat} {sp : Nat → Bool} {hd : Bool} {r : Reach} {v : Value} {d : DataW H} {ps : List MemPlace} (hv : Value.okWide Tryz.prog W r b0 29 v) (h : DataW.Trod enc Tryz.prog W base sp hd 29 v d ps) : ∃ n : Nt, v = .agg (ntC n) ∧ NtFit n := by
  obtain ⟨cs, rfl, _⟩ := okWide_struct Tryz.underlying29 hv
  obtain ⟨fuel, hf⟩ := h
  obtain ⟨n, e, hn⟩ := note_of hf
  refine ⟨n, ?_, hn⟩
  have e' : cs.toList = (ntC n).toList := e
  rw [Array.toList_inj.1 e']
set_option maxRecDepth 100000 in
theorem open_notes {H : Type} {enc : TypeId × Value → H} {W : World} {base b0 : Nat} {r : Reach} {v : Value} {d : DataW H} {ps : List MemPlace} (hv : Value.okWide Tryz.prog W r b0 22 v) (h : DataW.Trod enc Tryz.prog W base (fun _ => true) true 22 v d ps) :
    ∃ A l c, v = .slice A (List.length l) c ∧ NotesAt W A l ∧ (∀ n, n ∈ l → NtFit n) ∧ l.length ≤ maxLen ∧ l.length ≤ c ∧ ((A = none ∧ l = [] ∧ c = 0) ∨ ∃ g o s, A = some ⟨g, o, s⟩) := by
  obtain ⟨a0, len0, cap0, rfl⟩ := okWide_slice Tryz.underlying22 hv
  obtain ⟨fuel, hf⟩ := h
  rcases DataW.trod_slice Tryz.underlying22 hf with ⟨e, _⟩ | ⟨a, len, cap, elems, rest, n', hn', e, _, _, hl, hm, hel, hg, _, _⟩
  · simp [Value.cells] at e
    obtain ⟨rfl, rfl, rfl⟩ := e
    exact ⟨none, [], 0, rfl, fun i hi => by simp at hi, fun n hn => by simp at hn, by simp, by simp, .inl ⟨rfl, rfl, rfl⟩⟩
  · simp [Value.cells] at e
    obtain ⟨rfl, rfl, rfl⟩ := e
    have hplain : 0 < len0 → a.spot = none := fun hp => by
      have hgi := hg 0 hp
      rw [cells31, List.getElem?_eq_getElem (by omega)] at hgi
      obtain ⟨cs', hc1, hc2⟩ := Option.bind_eq_some_iff.1 hgi
      obtain ⟨_, _, hc3⟩ := World.cells?_some hc1
      obtain ⟨n, rfl, hn⟩ := note_of hc2
      have c0 : W.cell? ((a.add (0 * 9)).add 0) = some (.int .i64 n.kind) := hc3 0 (by omega)
      have hsp := World.cell?_spot c0
      simpa [Addr.add] using hsp
    have key : ∀ i, i < len0 → ∃ n : Nt, NtFit n ∧ ∃ g o, a = ⟨g, o, none⟩ ∧ CellsAt W g (o + i * 9) (ntC n).toList := fun i hi => by
      have hgi := hg i hi
      rw [cells31, List.getElem?_eq_getElem (by omega)] at hgi
      obtain ⟨cs', hc1, hc2⟩ := Option.bind_eq_some_iff.1 hgi
      obtain ⟨_, _, hc3⟩ := World.cells?_some hc1
      obtain ⟨n, rfl, hn⟩ := note_of hc2
      obtain ⟨b, off, spot⟩ := a
      have hspot : spot = none := hplain (by omega)
      subst hspot
      refine ⟨n, hn, b, off, rfl, fun j v hj => ?_⟩
      have hj9 : j < 9 := by
        have := (List.getElem?_eq_some_iff.1 hj).1
        simpa [ntC] using this
      have := hc3 j hj9
      rw [add_plain, add_plain] at this
      rw [this, hj]
    obtain ⟨l, hl1, hl2⟩ : ∃ l : List Nt, l.length = len0 ∧ ∀ (i : Nat) (hi : i < l.length), NtFit (l[i]'hi) ∧ ∃ g o, a = ⟨g, o, none⟩ ∧ CellsAt W g (o + i * 9) (ntC (l[i]'hi)).toList := by
      refine ⟨(List.range len0).attach.map fun i => (key i.1 (List.mem_range.1 i.2)).choose, by simp, fun i hi => ?_⟩
      have hi' : i < len0 := by simpa using hi
      have e : ((List.range len0).attach.map fun i => (key i.1 (List.mem_range.1 i.2)).choose)[i]'hi = (key i hi').choose := by
        simp
      rw [e]
      exact (key i hi').choose_spec
    refine ⟨some a, l, cap0, by rw [hl1], fun i hi => ?_, fun n hn => ?_, by omega, by omega, .inr ⟨a.block, a.off, a.spot, rfl⟩⟩
    · obtain ⟨_, g, o, rfl, hc⟩ := hl2 i hi
      exact ⟨g, o, rfl, hc⟩
    · obtain ⟨i, hi, rfl⟩ := List.getElem_of_mem hn
      exact (hl2 i hi).1
end Go.Proofs.YtfapilgmgjmfeaaGreatDoor
